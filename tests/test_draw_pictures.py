"""Promise 2: faces in order, every mode, whole pictures, and that nothing is changed or kept."""

import contextlib
import inspect
import io
import itertools
import unittest

from plain_drawing import FAR, WHITE, Untouchable, changed, corner, first_difference, plain_draw, scene, spot
from solidpicture.drawing import draw

MODES = [mode for mode in range(64) if mode % 4 < 3]
OLD = 0x12345678


class PictureCase(unittest.TestCase):
    def check_picture(self, one, label=None):
        answer = draw(**one)
        self.assertIs(type(answer), list, label)
        self.assertIsNone(first_difference(answer, plain_draw(**one)), label)
        self.assertEqual({type(number) for number in answer}, {int}, label)
        return answer


def some_numbers(count, step, limit):
    return [(11 + k * step) % limit for k in range(count)]


def crossing_scene(side=12):
    """Faces of both sides that cover and cross one another, one of them cut, one behind, one flat, one too far off."""
    corners = [
        corner(-60000, 60000, 20000, red=65535, green=0, blue=9000, cover=60000, u=0, v=0),
        corner(60000, 50000, -30000, red=0, green=65535, blue=200, cover=30000, u=70000, v=-3000),
        corner(-50000, -60000, 5000, red=900, green=40000, blue=65535, cover=65535, u=-900, v=131072),
        corner(65536, -65536, 40000, 90000, red=30000, green=30000, blue=30000, cover=1000, u=500, v=-66000),
        corner(-30000, 90000, -60000, -20000, red=65535, green=65535, blue=0, cover=50000, u=9000, v=9000),
        corner(8000, -3000, 100, 4096, red=0, green=0, blue=65535, cover=45000, u=33000, v=2000),
        corner(0, 0, 0, 0, red=1, green=2, blue=3, cover=4),
        corner(9000000, 0, 0, 4096),
    ]
    index = [0, 1, 2, 3, 2, 1, 0, 4, 3, 2, 5, 1, 6, 4, 6, 1, 1, 2, 7, 0, 1, 5, 3, 0, 4, 2, 0, 1, 3]
    return scene(
        corners, index=index, w=side, h=side,
        pix=some_numbers(side * side, 2654435761, 2**32),
        depth=[2**23 + k for k in some_numbers(side * side, 1999993, 2**22)],
        pattern=some_numbers(4096, 3266489917, 2**32),
    )


class Order(PictureCase):
    def two_faces(self, **looks):
        """Two faces over all of a picture of one pixel: the looks of the first and of the second."""
        corners = [spot(X, Y, 1, **looks[name]) for name in ("first", "second") for X, Y in ((8, 0), (24, 16), (-8, 16))]
        return scene(corners, index=[0, 1, 2, 3, 4, 5], w=1, h=1)

    def test_the_last_face_is_on_top(self):
        red = {"green": 0, "blue": 0, "z": -500}
        blue = {"red": 0, "green": 0, "z": 500}
        one = self.two_faces(first=red, second=blue)
        self.assertEqual(draw(**one), [0, 0xFF0000FF, FAR])
        self.assertEqual(draw(**changed(one, index=[3, 4, 5, 0, 1, 2])), [0, 0xFFFF0000, FAR])
        # Kept, but not asked: the last face's depth, too.
        self.assertEqual(draw(**changed(one, mode=8)), [0, 0xFF0000FF, 2**23 + 500 * 128])
        # Asked and kept: the nearer face, in whatever order.
        for index in ([0, 1, 2, 3, 4, 5], [3, 4, 5, 0, 1, 2]):
            self.assertEqual(draw(**changed(one, mode=12, index=index)), [0, 0xFFFF0000, 2**23 - 500 * 128])
        # Asked, but not kept: both are nearer than what is there.
        self.assertEqual(draw(**changed(one, mode=4)), [0, 0xFF0000FF, FAR])

    def test_of_the_same_depth_the_last_is_on_top(self):
        one = self.two_faces(first={"green": 0, "blue": 0}, second={"red": 0, "green": 0})
        self.assertEqual(draw(**changed(one, mode=12)), [0, 0xFF0000FF, 2**23])

    def test_mixed_in_order(self):
        # Half of red over black, then half of blue over that: 128 of 255 each time.
        one = self.two_faces(
            first={"green": 0, "blue": 0, "cover": 128 << 8}, second={"red": 0, "green": 0, "cover": 128 << 8}
        )
        self.assertEqual(draw(**changed(one, mode=32)), [0, (128 + 64) << 24 | 64 << 16 | 128, FAR])
        back = changed(one, mode=32, index=[3, 4, 5, 0, 1, 2])
        self.assertEqual(draw(**back), [0, (128 + 64) << 24 | 128 << 16 | 64, FAR])

    def test_one_face_again_and_again(self):
        for mode in (32, 44, 48, 60):
            one = scene([spot(0, 0, cover=9000), spot(128, 10, cover=20000), spot(7, 128)], index=[0, 1, 2] * 9, mode=mode)
            self.check_picture(one, mode)

    def test_faces_in_any_order(self):
        one = crossing_scene(8)
        faces = [one["index"][k:k + 3] for k in range(0, 12, 3)]
        for order in itertools.permutations(faces):
            for mode in (0, 12, 36, 60):
                index = [k for face in order for k in face]
                self.check_picture(changed(one, index=index, faces=4, mode=mode), (order, mode))

    def test_the_triangles_of_a_face_in_order(self):
        # Two triangles of the one cut face lie over one another here, by how the cut is rounded.
        places = ((3449, -2619, 4343), (15470349, 13338432, -16777215), (-6081, -5738, 8706))
        looks = ({"red": 65535, "blue": 0}, {"green": 65535}, {"blue": 65535, "red": 0})
        corners = [corner(x, y, w=w, cover=40000, **look) for (x, y, w), look in zip(places, looks)]
        for mode in MODES:
            self.check_picture(scene(corners, w=64, h=64, mode=mode, pix=[OLD] * 4096), mode)


class Modes(PictureCase):
    def test_each_of_the_48(self):
        one = crossing_scene()
        pictures = {}
        for mode in MODES:
            pictures[mode] = tuple(self.check_picture(changed(one, mode=mode), mode))
        self.assertEqual(len(MODES), 48)
        # Nothing in the scene hides what a mode does.
        self.assertEqual(len(set(pictures.values())), 48)

    def test_depths_change_only_if_kept(self):
        one = crossing_scene()
        pixels = one["w"] * one["h"]
        for mode in MODES:
            depths = draw(**changed(one, mode=mode))[1 + pixels:]
            self.assertEqual(depths == one["depth"], mode & 8 == 0, mode)


def ring_scene(mode, w, h):
    """A closed ring of coloured plates, seen from beside it, so that some of it lies behind the one who looks."""
    corners = []
    around = ((65536, 0), (46341, 46341), (0, 65536), (-46341, 46341), (-65536, 0), (-46341, -46341), (0, -65536),
              (46341, -46341))
    for k, (x, z) in enumerate(around):
        for y, v in ((30000, 0), (-30000, 90000)):
            corners.append(corner(
                x, y, z, red=k * 9000, green=65535 - k * 9000, blue=v // 2, cover=30000 + k * 5000,
                u=k * 40000 - 100000, v=v,
            ))
    index = []
    for k in range(8):
        upper, lower, after, under = 2 * k, 2 * k + 1, (2 * k + 2) % 16, (2 * k + 3) % 16
        # The halves of a plate go the one by the clock, the other against it.
        index += [upper, after, lower, lower, under, after]
    # Far and near in the rows of z and w: w grows with z, and is below 0 for the nearest plates.
    m = [60000, 0, 3000, 5000, -2000, 61000, 9000, -4000, 0, 1000, 66000, 8000, 700, -300, 65536, 40000]
    return scene(
        corners, index=index, w=w, h=h, mode=mode, m=m,
        pix=some_numbers(w * h, 2654435761, 2**32),
        pattern=some_numbers(4096, 3266489917, 2**32),
    )


class WholePictures(PictureCase):
    def test_written_out(self):
        # Reckoned by hand: red, green and blue at the corners, of one Q; the weights of a pixel are 16ths of N.
        corners = [
            spot(0, 0, 2, green=0, blue=0), spot(64, 0, 2, red=0, blue=0), spot(0, 64, 2, red=0, green=0),
        ]
        # At (8, 8) 6, 1, 1 eighths; at (24, 8) 4, 3, 1; at (8, 24) 4, 1, 3; at (24, 24) 2, 3, 3.
        self.assertEqual(draw(**scene(corners, w=2, h=2, mode=8)), [
            0,
            0xFFBF1F1F, 0xFF7F5F1F,
            0xFF7F1F5F, 0xFF3F5F5F,
            2**23, 2**23, 2**23, 2**23,
        ])

    def test_a_ring_of_plates(self):
        for mode in (0, 12, 13, 14, 28, 60):
            one = ring_scene(mode, 64, 48)
            answer = self.check_picture(one, mode)
            drawn = [k for k in range(64 * 48) if answer[1 + k] != one["pix"][k]]
            self.assertGreater(len(drawn), 500, mode)

    def test_a_picture_wider_than_high_and_the_other_way(self):
        for w, h in ((90, 11), (11, 90), (1, 40), (40, 1), (1024, 1), (1, 1024)):
            self.check_picture(ring_scene(60, w, h), (w, h))

    def test_many_small_faces(self):
        corners = []
        for k in range(400):
            x, y = k % 20 * 7001 - 66000, k // 20 * 6997 - 65000
            corners.append(corner(x, y, k * 97 - 20000, 65536 + k * 50, red=k * 163 % 65536, u=k * 9001, v=-k * 777))
        index = []
        for k in range(0, 378):
            index += [k, k + 1, k + 20, k + 21, k + 20, k + 1]
        self.check_picture(scene(corners, index=index, w=24, h=20, mode=28, pattern=some_numbers(4096, 3266489917, 2**32)))

    def test_the_largest_picture_at_once(self):
        one = scene([corner(-65536, 65536), corner(200000, 65536), corner(-65536, -200000)], w=200, h=150)
        answer = draw(**one)
        self.assertTrue(answer[1:30001] == [WHITE] * 30000)


class NothingKept(PictureCase):
    LISTS = ("pix", "depth", "m", "corners", "index", "pattern", "window")

    def test_arguments_have_the_names_of_the_interface(self):
        names = ["w", "h", "n", "faces", "mode", "pix", "depth", "m", "corners", "index", "pattern", "window"]
        self.assertEqual(list(inspect.signature(draw).parameters), names)
        one = crossing_scene()
        self.assertTrue(draw(*[one[name] for name in names]) == draw(**one))

    def test_what_was_handed_in_stays(self):
        for mode in (0, 12, 60, 62, 63):
            one = changed(crossing_scene(), mode=mode)
            copies = {name: list(one[name]) for name in self.LISTS}
            draw(**one)
            for name in self.LISTS:
                self.assertTrue(one[name] == copies[name], name)

    def test_what_was_handed_in_is_not_changed_for_a_while(self):
        for mode in (0, 12, 60, 63):
            one = changed(crossing_scene(), mode=mode)
            guarded = {name: Untouchable(one[name]) for name in self.LISTS}
            self.assertTrue(draw(**changed(one, **guarded)) == draw(**one), mode)

    def test_the_answer_is_a_list_of_its_own(self):
        for one in (changed(crossing_scene(), mode=60), scene(index=[])):
            copies = {name: list(one[name]) for name in self.LISTS}
            answer = draw(**one)
            expected = list(answer)
            for name in self.LISTS:
                self.assertIsNot(answer, one[name])
            for k in range(len(answer)):
                answer[k] = -5
            answer.append(-6)
            for name in self.LISTS:
                self.assertTrue(one[name] == copies[name], name)
            self.assertTrue(draw(**one) == expected)

    def test_a_second_call_answers_like_the_first(self):
        one, other = changed(crossing_scene(), mode=60), ring_scene(12, 20, 10)
        first = draw(**one)
        between = draw(**other)
        draw(**changed(one, mode=3))
        draw(**changed(one, m=[2**24] * 16))
        second = draw(**one)
        self.assertTrue(first == second)
        self.assertIsNot(first, second)
        self.assertTrue(draw(**other) == between)

    def test_one_list_handed_in_twice(self):
        both = [FAR - k for k in range(64)]
        one = scene([spot(0, 0), spot(128, 0), spot(0, 128)], mode=12, pix=both, depth=both)
        answer = self.check_picture(one)
        self.assertEqual(both, [FAR - k for k in range(64)])
        self.assertNotEqual(answer[1:65], answer[65:])

    def test_nothing_is_printed(self):
        out, err = io.StringIO(), io.StringIO()
        with contextlib.redirect_stdout(out), contextlib.redirect_stderr(err):
            draw(**crossing_scene())
            draw(**changed(crossing_scene(), mode=3))
        self.assertEqual((out.getvalue(), err.getvalue()), ("", ""))


if __name__ == "__main__":
    unittest.main()
