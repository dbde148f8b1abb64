"""Promise 2: what draw refuses, and what it must still take."""

import unittest

from plain_drawing import FAR, ONE, WHITE, changed, corner, plain_draw, scene, spot, with_number
from solidpicture.drawing import draw

BEYOND = 2**24
LOWEST, HIGHEST = -2**31, 2**31 - 1
TOP = 2**32 - 1
WRONG_SIDES = (0, -1, 1025, 65536, HIGHEST, LOWEST)
WRONG_CORNER_COUNTS = (-1, 4097, 65536, HIGHEST, LOWEST)
WRONG_FACE_COUNTS = (-1, 8193, 65536, HIGHEST, LOWEST)
WRONG_MODES = (3, 7, 63, 64, 65, 66, 67, 128, 256, 2**16, 2**31, TOP - 3, TOP - 1, TOP)
TRIANGLE = (spot(0, 0), spot(128, 0), spot(0, 128))


def whole_scene():
    """A scene that draws something, with a corner that no face names."""
    return scene(TRIANGLE + (spot(128, 128),), mode=12)


def unseen_scenes():
    """Scenes in which no number of a corner matters: one without faces, one with an empty window."""
    return (
        scene(TRIANGLE, index=[]),
        scene(TRIANGLE, window=[3, 3, 3, 3]),
    )


class RefusalCase(unittest.TestCase):
    def check_answer(self, one, number, label):
        answer = draw(**one)
        self.assertIs(type(answer), list, label)
        self.assertEqual(len(answer), 1, label)
        self.assertEqual(answer, [number], label)
        self.assertIs(type(answer[0]), int, label)

    def check_taken(self, one, label):
        answer = draw(**one)
        self.assertEqual(len(answer), 1 + 2 * one["w"] * one["h"], label)
        self.assertEqual(answer[0], 0, label)
        self.assertTrue(answer == plain_draw(**one), label)


def sized(one, w, h):
    """The scene on a picture of another size, whose lists are as long as they must be."""
    pixels = w * h if 1 <= w <= 1024 and 1 <= h <= 1024 else 0
    return changed(one, w=w, h=h, pix=[5] * pixels, depth=[FAR] * pixels)


class SizesAndMode(RefusalCase):
    def test_sides(self):
        for wrong in WRONG_SIDES:
            for right in (1, 8, 1024):
                self.check_answer(sized(whole_scene(), wrong, right), -1, wrong)
                self.check_answer(sized(whole_scene(), right, wrong), -1, wrong)
            self.check_answer(sized(whole_scene(), wrong, wrong), -1, wrong)

    def test_sides_that_are_taken(self):
        for w, h in ((1, 1), (1, 1024), (1024, 1), (1023, 1), (1024, 2), (2, 1024)):
            self.check_taken(sized(whole_scene(), w, h), (w, h))

    def test_most_pixels_are_taken(self):
        for w, h in ((200, 150), (1000, 30), (29, 1024)):
            one = sized(whole_scene(), w, h)
            answer = draw(**changed(one, index=[], faces=0))
            self.assertTrue(answer == [0] + one["pix"] + one["depth"], (w, h))

    def test_corner_count(self):
        for n in WRONG_CORNER_COUNTS:
            one = changed(scene(index=[]), n=n)
            self.check_answer(one, -1, n)
            self.check_answer(changed(one, faces=1, index=[0, 0, 0]), -1, n)

    def test_corner_counts_that_are_taken(self):
        self.check_taken(scene(index=[]), 0)
        self.check_taken(scene(TRIANGLE[:1], index=[0, 0, 0]), 1)
        many = TRIANGLE * 1000
        self.check_taken(scene(many, index=[2997, 1, 2999]), 3000)
        self.check_taken(scene(many + TRIANGLE * 365 + TRIANGLE[:1], index=[4095, 1, 2]), 4096)

    def test_face_count(self):
        for faces in WRONG_FACE_COUNTS:
            self.check_answer(changed(whole_scene(), faces=faces, index=[]), -1, faces)
            self.check_answer(changed(scene(index=[]), faces=faces), -1, faces)

    def test_face_counts_that_are_taken(self):
        self.check_taken(scene(TRIANGLE, index=[]), 0)
        self.check_taken(scene(TRIANGLE, index=[0, 1, 1] * 8191 + [0, 1, 2]), 8192)

    def test_modes(self):
        for mode in WRONG_MODES:
            self.check_answer(changed(whole_scene(), mode=mode), -1, mode)
            self.check_answer(changed(scene(index=[]), mode=mode), -1, mode)

    def test_just_48_modes_are_taken(self):
        taken = 0
        for mode in range(130):
            one = changed(whole_scene(), mode=mode)
            if mode < 64 and mode % 4 < 3:
                self.check_taken(one, mode)
                taken += 1
            else:
                self.check_answer(one, -1, mode)
        self.assertEqual(taken, 48)


class Numbers(RefusalCase):
    def check_number(self, one, name, place, wrong, right):
        for number in wrong:
            self.check_answer(with_number(one, name, place, number), -2, (name, place, number))
        for number in right:
            self.check_taken(with_number(one, name, place, number), (name, place, number))

    def test_matrix(self):
        for place in range(16):
            wrong, right = (BEYOND, -BEYOND, BEYOND + 1, HIGHEST, LOWEST), (BEYOND - 1, 1 - BEYOND)
            self.check_number(whole_scene(), "m", place, wrong, right)

    def test_window(self):
        for place in range(4):
            wrong, right = (BEYOND, -BEYOND, BEYOND + 1, HIGHEST, LOWEST), (BEYOND - 1, 1 - BEYOND)
            self.check_number(whole_scene(), "window", place, wrong, right)

    def test_places_and_pattern_places_of_corners(self):
        for one in (whole_scene(),) + unseen_scenes():
            for which in range(one["n"]):
                for place in (0, 1, 2, 3, 8, 9):
                    wrong, right = (BEYOND, -BEYOND, BEYOND + 1, HIGHEST, LOWEST), (BEYOND - 1, 1 - BEYOND)
                    self.check_number(one, "corners", 10 * which + place, wrong, right)

    def test_colors_and_cover_of_corners(self):
        for one in (whole_scene(),) + unseen_scenes():
            for which in range(one["n"]):
                for place in (4, 5, 6, 7):
                    wrong, right = (-1, 65536, BEYOND - 1, 1 - BEYOND, HIGHEST, LOWEST), (0, 1, 65534, 65535)
                    self.check_number(one, "corners", 10 * which + place, wrong, right)

    def test_a_place_may_be_beyond_a_color(self):
        for place in (0, 1, 2, 3, 8, 9):
            self.check_number(whole_scene(), "corners", place, (), (-1, -65536, 65536, 70000))

    def test_index(self):
        for place in range(3):
            self.check_number(whole_scene(), "index", place, (4, 5, 4096, 65535), (0, 3))
        two = scene(TRIANGLE, index=[0, 1, 2, 2, 1, 0])
        for place in range(6):
            self.check_number(two, "index", place, (3, 65535), (0, 2))

    def test_index_without_corners(self):
        for index in ([0, 0, 0], [0, 1, 2], [65535, 65535, 65535]):
            self.check_answer(scene(index=index), -2, index)

    def test_index_at_the_most_corners(self):
        many = TRIANGLE * 1000
        self.check_answer(scene(many, index=[0, 1, 3000]), -2, 3000)
        self.check_taken(scene(many, index=[0, 1, 2999]), 2999)

    def test_depth_in_every_mode(self):
        for mode in (0, 4, 8, 12, 62):
            for place in (0, 1, 31, 63):
                one = changed(whole_scene(), mode=mode)
                self.check_number(one, "depth", place, (BEYOND, BEYOND + 1, TOP), (0, BEYOND - 1))

    def test_depth_that_no_face_meets(self):
        for one in unseen_scenes() + (scene(index=[]),):
            for place in (0, 63):
                self.check_number(one, "depth", place, (BEYOND, TOP), (0, BEYOND - 1))

    def test_wrong_numbers_beside_nothing_to_draw(self):
        for one in unseen_scenes():
            self.check_number(one, "m", 5, (BEYOND, -BEYOND), ())
            self.check_number(one, "window", 2, (BEYOND, -BEYOND), ())
        empty = scene(index=[])
        self.check_number(empty, "m", 0, (BEYOND, -BEYOND), (BEYOND - 1,))
        self.check_number(empty, "window", 3, (BEYOND, -BEYOND), (1 - BEYOND,))

    def test_pixels_and_pattern_may_be_all_that_32_bits_hold(self):
        for number in (0, 1, BEYOND, 2**31, TOP):
            one = changed(whole_scene(), mode=48, pix=[number] * 64, pattern=[WHITE - number] * 4096)
            self.check_taken(one, number)


class OneBeforeTheOther(RefusalCase):
    def test_a_wrong_size_goes_before_a_wrong_number(self):
        wrong = changed(whole_scene(), m=[BEYOND] * 16, window=[LOWEST] * 4, index=[4, 4, 4], depth=[TOP] * 64)
        wrong = with_number(with_number(wrong, "corners", 4, -1), "corners", 0, BEYOND)
        self.check_answer(wrong, -2, "all numbers")
        for mode in WRONG_MODES:
            self.check_answer(changed(wrong, mode=mode), -1, mode)
        for side in WRONG_SIDES:
            self.check_answer(changed(wrong, w=side, pix=[], depth=[]), -1, side)
            self.check_answer(changed(wrong, h=side, pix=[], depth=[]), -1, side)
        for n in WRONG_CORNER_COUNTS:
            self.check_answer(changed(wrong, n=n, corners=[]), -1, n)
        for faces in WRONG_FACE_COUNTS:
            self.check_answer(changed(wrong, faces=faces, index=[]), -1, faces)

    def test_all_sizes_wrong_at_once(self):
        one = scene(w=1, h=1, index=[])
        one = changed(one, w=0, h=1025, n=-1, faces=8193, mode=3, pix=[], depth=[], m=[BEYOND] * 16)
        self.check_answer(one, -1, "all")

    def test_a_refusal_is_a_list_of_its_own(self):
        for one, number in ((changed(whole_scene(), mode=3), -1), (with_number(whole_scene(), "m", 0, BEYOND), -2)):
            draw(**one).append(7)
            self.check_answer(one, number, number)


class NothingToDraw(RefusalCase):
    def test_no_faces_or_no_corners(self):
        pix, depth = [k * 67108859 % 2**32 for k in range(64)], [k * 262139 % 2**24 for k in range(64)]
        for mode in (0, 12, 62):
            for corners in ((), TRIANGLE, (corner(),)):
                one = scene(corners, index=[], mode=mode, pix=list(pix), depth=list(depth), m=list(ONE))
                self.assertEqual(draw(**one), [0] + pix + depth)


if __name__ == "__main__":
    unittest.main()
