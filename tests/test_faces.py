"""Promise 3: which faces count."""

import contextlib
import inspect
import io
import itertools
import unittest

from plain_drawing import (
    ONE, Corner, Untouchable, changed, corner, cut, plain_faces, scene, solid, spot, triangles, turning,
)
from solidpicture.drawing import clear, draw, faces_of

BEYOND = 2**24


class CountCase(unittest.TestCase):
    def count(self, *corners, **more):
        """What faces_of counts, once it is seen that the second reckoning counts the same."""
        one = solid(corners, **more)
        answer = faces_of(**one)
        self.assertIs(type(answer), list)
        self.assertEqual([type(number) for number in answer], [int])
        self.assertEqual(answer, plain_faces(**one))
        return answer[0]

    def check_all_orders(self, corners, expected, **more):
        for three in itertools.permutations(corners):
            self.assertEqual(self.count(*three, **more), expected, three)

    def turnings(self, corners, side=8):
        """N of each triangle of one face that isn't moved, by the second reckoning."""
        return [turning(*three) for three in triangles(side, side, [Corner(*one) for one in corners])]


def place(X, Y):
    """A corner at (X, Y), 16 a pixel, with w of 4096."""
    return spot(X, Y, w=4096)


def with_matrix(**changes):
    """ONE with other numbers: m3=5 puts 5 in the place 3."""
    m = list(ONE)
    for name, number in changes.items():
        m[int(name[1:])] = number
    return m


TRIANGLE = (spot(0, 0), spot(128, 0), spot(0, 128))


class Counted(CountCase):
    def test_nothing_to_count(self):
        self.assertEqual(faces_of(**solid(index=[])), [0])
        self.assertEqual(faces_of(**solid(TRIANGLE, index=[])), [0])
        self.assertEqual(faces_of(**solid(TRIANGLE, index=[], w=1024, h=1024)), [0])

    def test_by_the_clock_and_against_it(self):
        self.assertGreater(self.turnings(TRIANGLE)[0], 0)
        self.assertLess(self.turnings(TRIANGLE[::-1])[0], 0)
        self.assertEqual(self.count(*TRIANGLE), 1)
        self.assertEqual(self.count(*TRIANGLE[::-1]), 1)
        self.assertEqual(self.count(*TRIANGLE, index=[0, 1, 2, 2, 1, 0]), 2)
        self.check_all_orders(TRIANGLE, 1)

    def test_a_face_named_again(self):
        self.assertEqual(self.count(*TRIANGLE, index=[0, 1, 2, 0, 1, 2]), 2)
        self.assertEqual(self.count(*TRIANGLE, index=[0, 1, 2, 1, 2, 0, 2, 0, 1]), 3)
        self.assertEqual(self.count(*TRIANGLE, index=[0, 1, 2] * 1000), 1000)

    def test_one_corner_named_more_than_once(self):
        for index in itertools.product(range(3), repeat=3):
            self.assertEqual(self.count(*TRIANGLE, index=index), int(len(set(index)) == 3), index)

    def test_one_corner_named_more_than_once_and_cut(self):
        corners = (corner(-900, 700, w=9000), corner(5000, 8000, w=-3000), corner(800, -900, w=4096))
        self.assertEqual(self.count(*corners), 1)
        for index in itertools.product(range(3), repeat=3):
            self.assertEqual(self.count(*corners, index=index), int(len(set(index)) == 3), index)

    def test_only_those_that_count_among_others(self):
        corners = TRIANGLE + (spot(64, 64), corner(0, -65536, 0, 0), corner(BEYOND - 1, 0, 0, 4096), spot(128, 128))
        # In order: one that counts, a corner twice, a diagonal, a corner too far off, one that is cut, one more.
        index = [0, 1, 2, 0, 0, 1, 0, 3, 6, 0, 5, 1, 0, 1, 4, 6, 2, 1]
        self.assertEqual(self.count(*corners, index=index), 3)
        self.assertEqual(self.count(*corners, index=index[::-1]), 3)
        self.assertEqual(self.count(*corners, index=index * 3), 9)

    def test_sides_do_not_cancel_out(self):
        # The N of both faces sum up to 0, and each counts.
        self.assertEqual(self.count(*TRIANGLE, index=[0, 1, 2, 0, 2, 1] * 5), 10)

    def test_only_places_matter(self):
        for number in (0, 1, 65535):
            looks = {"red": number, "green": number, "blue": number, "cover": number}
            corners = [spot(X, Y, **looks) for X, Y in ((0, 0), (128, 0), (0, 128))]
            self.assertEqual(self.count(*corners), 1)
        for number in (1 - BEYOND, -1, 0, BEYOND - 1):
            corners = [spot(X, Y, z=number, u=number, v=-number) for X, Y in ((0, 0), (128, 0), (0, 128))]
            self.assertEqual(self.count(*corners), 1)


class Flat(CountCase):
    def test_flat_faces(self):
        for places in (
            ((0, 0), (64, 64), (128, 128)),
            ((0, 8), (64, 8), (128, 8)),
            ((8, 0), (8, 64), (8, 128)),
            ((8, 8), (8, 8), (8, 8)),
            ((8, 8), (72, 72), (8, 8)),
            ((-3000, 0), (0, 1000), (3000, 2000)),
        ):
            self.check_all_orders([spot(X, Y) for X, Y in places], 0)

    def test_hardly_not_flat(self):
        corners = [spot(8, 8), spot(9, 8), spot(8, 9)]
        self.assertEqual(self.turnings(corners), [1])
        self.check_all_orders(corners, 1)
        long = [place(-30000, -30000), place(30000, 29999), place(29999, 29998)]
        self.assertEqual(self.turnings(long), [-1])
        self.check_all_orders(long, 1)

    def test_one_place_by_different_numbers(self):
        # Three corners that aren't in one place, but become so on the picture.
        near = [corner(0, 0), corner(8191, 0), corner(0, 8191)]
        self.check_all_orders(near, 0, w=1, h=1)
        self.check_all_orders([corner(0, 0), corner(8192, 0), corner(0, 8191)], 0, w=1, h=1)
        self.check_all_orders([corner(0, 0), corner(8192, 0), corner(0, 8192)], 1, w=1, h=1)
        # Twice as far off with twice the w.
        self.check_all_orders([corner(9000, 700), corner(18000, 1400, w=131072), corner(0, 0)], 0, w=64, h=64)

    def test_the_picture_s_size_matters(self):
        near = [corner(0, 0), corner(4096, 0), corner(0, 4096)]
        self.check_all_orders(near, 0, w=1, h=1)
        self.check_all_orders(near, 0, w=2, h=1)
        self.check_all_orders(near, 0, w=1, h=2)
        self.check_all_orders(near, 1, w=2, h=2)
        tiny = [corner(0, 0), corner(8, 0), corner(0, 8)]
        self.check_all_orders(tiny, 0, w=1023, h=1024)
        self.check_all_orders(tiny, 0, w=1024, h=1023)
        self.check_all_orders(tiny, 1, w=1024, h=1024)

    def test_quotients_go_towards_below(self):
        self.check_all_orders([corner(0, 0), corner(1, 0), corner(0, 1)], 0, w=1, h=1)
        # -8 / 65536 is -1: the places are (8, 8), (7, 8) and (8, 9).
        self.check_all_orders([corner(0, 0), corner(-1, 0), corner(0, -1)], 1, w=1, h=1)
        self.check_all_orders([corner(-1, 0), corner(-8192, 0), corner(0, -1)], 0, w=1, h=1)
        self.check_all_orders([corner(-1, 0), corner(-8193, 0), corner(0, -1)], 1, w=1, h=1)
        self.check_all_orders([corner(-1, -1), corner(-8192, -1), corner(-1, -8192)], 0, w=1, h=1)
        self.check_all_orders([corner(-1, -1), corner(-8193, -1), corner(-1, -8193)], 1, w=1, h=1)


class Moved(CountCase):
    def test_each_row_matters(self):
        for m, expected in (
            (with_matrix(m0=0), 0),
            (with_matrix(m5=0), 0),
            (with_matrix(m10=0), 1),
            (with_matrix(m15=0), 0),
            (with_matrix(m0=-65536), 1),
            (with_matrix(m5=-65536), 1),
            (with_matrix(m15=-65536), 0),
            (with_matrix(m0=0, m1=65536), 0),
            (with_matrix(m0=0, m1=65536, m4=65536, m5=0), 1),
            ([0] * 16, 0),
            ([65536] * 16, 0),
        ):
            self.assertEqual(self.count(*TRIANGLE, m=m), expected, m)

    def test_each_number_of_w(self):
        # Just enough or one too little for the plane: all of w comes from one of the four numbers.
        corners = [corner(-70000, 70000, 65536), corner(70000, 70000, 65536), corner(-70000, 69000, 65536)]
        for total, expected in ((4096, 1), (4095, 0)):
            self.assertEqual(self.count(*corners, m=with_matrix(m15=total)), expected)
            self.assertEqual(self.count(*corners, m=with_matrix(m14=total, m15=0)), expected)
        across = [corner(65536, 4096), corner(65536, -4096), corner(65536, 0, 4096)]
        upright = [corner(4096, 65536), corner(-4096, 65536), corner(0, 65536, 4096)]
        for total, expected in ((4096, 1), (4095, 0)):
            by_x = [0, 0, 65536, 0, 0, 65536, 0, 0, 0, 0, 0, 0, total, 0, 0, 0]
            self.assertEqual(self.count(*across, m=by_x), expected)
            by_y = [65536, 0, 0, 0, 0, 0, 65536, 0, 0, 0, 0, 0, 0, total, 0, 0]
            self.assertEqual(self.count(*upright, m=by_y), expected)

    def test_quotients_go_towards_below(self):
        # w is (4096 * 65536 - x) / 65536: one of x too much is 4095 for all three corners.
        for x, expected in ((0, 1), (1, 0), (-1, 1)):
            corners = [corner(x, 4000, 1000, w=4096), corner(x, -4000, -900, w=4096), corner(x, 0, 4000, w=4096)]
            m = [0, 0, 65536, 0, 0, 65536, 0, 0, 0, 0, 0, 0, -1, 0, 0, 65536]
            self.assertEqual(self.count(*corners, m=m), expected, x)
        # x of -1, halved, is -1 and not 0.
        half = with_matrix(m0=32768, m5=32768)
        self.check_all_orders([corner(0, 0), corner(-1, 0), corner(0, -1)], 1, w=1, h=1, m=half)
        self.check_all_orders([corner(0, 0), corner(1, 0), corner(0, 1)], 0, w=1024, h=1024, m=half)

    def test_the_largest_numbers(self):
        top = BEYOND - 1
        for signs in itertools.product((top, -top), repeat=4):
            m = list(signs) + [top, -top, top, -top] + [top] * 4 + [0, 0, 0, top]
            corners = [corner(top, top, top, top), corner(-top, top, -top, top), corner(top, -top, top, top)]
            self.count(*corners, m=m, w=1024, h=1024)
            self.count(*corners, m=m, w=1, h=1)
            self.count(*corners, m=m[4:12] + m[:4] + [top, -top, top, 1])

    def test_a_corner_is_moved_once_for_every_face(self):
        corners = TRIANGLE + (spot(128, 128),)
        index = [k for three in itertools.permutations(range(4), 3) for k in three]
        for m in (ONE, with_matrix(m0=131072, m3=5000), with_matrix(m12=30000, m1=-9000)):
            self.assertEqual(self.count(*corners, index=index, m=m), 24)


class Cut(CountCase):
    PLACES = ((-3000, 2500), (2800, 3000), (500, -3500))

    def corners(self, *ws):
        return [corner(x, y, w=w) for (x, y), w in zip(self.PLACES, ws)]

    def test_how_many_are_in_front(self):
        for front in (4096, 4097, 9000):
            for behind in (4095, 0, -1, -9000):
                for sides in itertools.product((front, behind), repeat=3):
                    kept = len(cut([Corner(*one) for one in self.corners(*sides)]))
                    self.assertEqual(kept, (0, 3, 4, 3)[sides.count(front)])
                    if front > 4097:
                        self.assertEqual(self.count(*self.corners(*sides)), int(front in sides), sides)
                    else:
                        self.count(*self.corners(*sides))

    def test_just_on_the_plane(self):
        self.check_all_orders(self.corners(4096, 4096, 4096), 1)
        self.check_all_orders(self.corners(4095, 4095, 4095), 0)
        # What lies on the plane is cut to itself, so that two or one of three leave an edge or a place.
        self.check_all_orders(self.corners(4096, 4096, 4095), 0)
        self.check_all_orders(self.corners(4096, 4095, 4095), 0)
        self.check_all_orders(self.corners(4096, 4096, -65536), 0)
        self.check_all_orders(self.corners(9000, 4096, 4095), 1)
        self.check_all_orders(self.corners(9000, 4096, 4096), 1)

    def test_the_plane_is_not_elsewhere(self):
        for w, expected in ((4097, 1), (4096, 1), (4095, 0), (1, 0), (0, 0), (-4096, 0), (-65536, 0)):
            self.check_all_orders(self.corners(w, w, w), expected)

    def test_both_triangles_count_as_one_face(self):
        corners = self.corners(9000, 8000, 0)
        for three in itertools.permutations(corners):
            self.assertEqual([N != 0 for N in self.turnings(three)], [True, True])
            self.assertEqual(self.count(*three), 1)
        self.assertEqual(self.count(*corners, index=[0, 1, 2, 2, 1, 0]), 2)

    def test_one_flat_triangle_beside_one_that_is_not(self):
        on, behind, front = corner(-4096, 4096, w=4096), corner(-8192, -8192, w=0), corner(8192, 8192, w=8192)
        kinds = []
        for three in itertools.permutations((on, behind, front)):
            kinds.append([N != 0 for N in self.turnings(three)])
            self.assertEqual(self.count(*three), 1, three)
        # Wherever the face begins, one of both is flat: now the first, now the second.
        self.assertEqual(sorted(kinds), [[False, True]] * 3 + [[True, False]] * 3)

    def test_both_triangles_flat(self):
        for corners in (
            [corner(0, 1000, w=9000), corner(0, 2000, w=8000), corner(0, -3000, w=0)],
            [corner(100, 1000, w=4096), corner(100, 3000, w=4096), corner(5000, -3000, w=0)],
        ):
            for three in itertools.permutations(corners):
                self.assertEqual(self.turnings(three), [0, 0])
                self.assertEqual(self.count(*three), 0)

    def test_triangles_that_turn_against_one_another(self):
        # Rounding lets both N sum up to 0, though neither is.
        for side, first, places in (
            (1, 4520, ((5383250, -7654200, 0), (-3008, 5557, 6519), (-2809, 5165, 4097))),
            (1, -1, ((-2856, 244, 4680), (-5324, -812, 7177), (-128677, -6014411, -6989117))),
            (2, 5, ((1715, 56, 8591), (-3937349, -797983, -16777215), (2999, 3592, 4507))),
            (2, 4, ((400, 4425, 6323), (4554, 5612, 5491), (13602092, -6664144, -16777215))),
        ):
            corners = [corner(x, y, w=w) for x, y, w in places]
            self.assertEqual(self.turnings(corners, side), [first, -first])
            self.assertEqual(self.count(*corners, w=side, h=side), 1)

    def test_a_corner_behind_may_be_anywhere(self):
        # Only what is left after the cut must lie near, not what was cut off.
        behind = 1 - BEYOND
        corners = [corner(0, 4000, w=8192), corner(300000, -300000, w=behind), corner(-300000, -300000, w=behind)]
        self.check_all_orders(corners, 1)
        self.check_all_orders([corner(0, 4000, w=8192), corner(4000, 0, w=8192), corner(0, BEYOND - 1, w=4095)], 0)


class PutOnThePicture(CountCase):
    def test_faces_outside_the_picture(self):
        for X, Y in ((-2000, 60), (2000, 60), (60, -2000), (60, 2000), (-9000, -9000), (20000, 30000)):
            corners = [place(X, Y), place(X + 20, Y), place(X, Y + 20)]
            self.check_all_orders(corners, 1)

    def test_no_pixel_need_be_the_face_s(self):
        # Between the middles of pixels nothing is drawn, but the face counts.
        corners = [spot(1, 1), spot(3, 1), spot(1, 3)]
        one = scene(corners)
        self.assertEqual(draw(**one)[1:65], [0] * 64)
        self.check_all_orders(corners, 1)

    def test_the_farthest_places(self):
        for far in (32768, 32769, 40000, -32768, -32769, -40000):
            expected = int(abs(far) == 32768)
            self.check_all_orders([place(far, 64), place(-600, 2000), place(-600, -2000)], expected)
            self.check_all_orders([place(64, far), place(-2000, -600), place(2000, -600)], expected)

    def test_two_or_three_at_the_farthest_places(self):
        bounds = (-32768, 32768)
        for places in itertools.combinations(itertools.product(bounds, repeat=2), 3):
            self.check_all_orders([place(X, Y) for X, Y in places], 1)
            for which, more in itertools.product(range(3), ((1, 0), (0, 1))):
                beyond = [list(one) for one in places]
                for k in (0, 1):
                    beyond[which][k] += more[k] * (1 if beyond[which][k] > 0 else -1)
                self.assertEqual(self.count(*[place(X, Y) for X, Y in beyond]), 0, beyond)

    def test_on_the_largest_picture(self):
        # X is 8192 + 8192 x / W, Y is 8192 - 8192 y / W: 3 and -5 times W lie just at the bounds.
        W = 8192
        for x, y, expected in (
            (3 * W, 0, 1),
            (3 * W + 1, 0, 0),
            (-5 * W, 0, 1),
            (-5 * W - 1, 0, 0),
            (0, 5 * W, 1),
            (0, 5 * W + 1, 0),
            (0, -3 * W, 1),
            (0, -3 * W - 1, 0),
            (3 * W, 5 * W, 1),
            (-5 * W, -3 * W, 1),
        ):
            corners = [corner(x, y, w=W), corner(100, 200, w=W), corner(-300, 50, w=W)]
            self.check_all_orders(corners, expected, w=1024, h=1024)
            # The same face lies nearer on a smaller picture.
            self.check_all_orders(corners, 1, w=1000, h=1000)

    def test_width_and_height_each_by_itself(self):
        wide = [corner(3 * 8192 + 1, 0, w=8192), corner(0, 4000, w=8192), corner(0, -4000, w=8192)]
        high = [corner(0, 5 * 8192 + 1, w=8192), corner(4000, 0, w=8192), corner(-4000, 0, w=8192)]
        self.check_all_orders(wide, 0, w=1024, h=1)
        self.check_all_orders(wide, 1, w=1, h=1024)
        self.check_all_orders(high, 1, w=1024, h=1)
        self.check_all_orders(high, 0, w=1, h=1024)

    def test_one_of_four_corners_beyond(self):
        # The cut puts one new corner at X of 64 + x 15 / 1024, the others near the picture.
        for x, expected in ((2232593, 1), (2232661, 1), (2232662, 0)):
            corners = [corner(-x, 0, w=8192), corner(0, 577536), corner(x, -30208, w=0)]
            for three in itertools.permutations(corners):
                self.assertEqual(len(cut([Corner(*one) for one in three])), 4)
                self.assertEqual(self.count(*three), expected, three)

    def test_one_of_three_cut_corners_beyond(self):
        # Halfway to the plane: half of x, which is 8 * 8 / 4096 of it across.
        for x, expected in ((4186112, 1), (4186239, 1), (4186240, 0)):
            corners = [corner(0, 0, w=8192), corner(x, 0, w=0), corner(0, 9000, w=0)]
            self.check_all_orders(corners, expected)

    def test_a_face_that_is_left_out_leaves_the_others(self):
        far = (place(32769, 64), place(-600, 2000), place(-600, -2000))
        self.assertEqual(self.count(*TRIANGLE, *far, index=[3, 4, 5, 0, 1, 2, 5, 4, 3]), 1)
        # Two of its corners are good for another face.
        self.assertEqual(self.count(*TRIANGLE, *far, index=[3, 4, 5, 0, 4, 5, 5, 4, 3]), 1)


class NothingKept(CountCase):
    LISTS = ("m", "corners", "index")

    def some_solid(self):
        corners = TRIANGLE + (corner(900, 800, w=-7000), spot(128, 128), corner(BEYOND - 1, 0, 0, 4096))
        index = [k for three in itertools.product(range(6), repeat=3) for k in three]
        return solid(corners, index=index, m=with_matrix(m1=900, m4=-800, m12=77))

    def some_solids(self):
        one = self.some_solid()
        return (one, changed(one, w=0), changed(one, m=[BEYOND] * 16), solid(index=[]))

    def test_arguments_have_the_names_of_the_interface(self):
        names = ["w", "h", "n", "faces", "m", "corners", "index"]
        self.assertEqual(list(inspect.signature(faces_of).parameters), names)
        one = self.some_solid()
        self.assertEqual(faces_of(*[one[name] for name in names]), faces_of(**one))

    def test_something_is_counted(self):
        one = self.some_solid()
        answer = faces_of(**one)
        self.assertEqual(answer, plain_faces(**one))
        self.assertTrue(10 < answer[0] < 206)

    def test_what_was_handed_in_stays(self):
        for one in self.some_solids():
            copies = {name: list(one[name]) for name in self.LISTS}
            faces_of(**one)
            for name in self.LISTS:
                self.assertEqual(one[name], copies[name], name)

    def test_what_was_handed_in_is_not_changed_for_a_while(self):
        for one in self.some_solids():
            guarded = {name: Untouchable(one[name]) for name in self.LISTS}
            self.assertEqual(faces_of(**changed(one, **guarded)), faces_of(**one))

    def test_the_answer_is_a_list_of_its_own(self):
        for one in self.some_solids():
            copies = {name: list(one[name]) for name in self.LISTS}
            answer = faces_of(**one)
            expected = list(answer)
            answer[0] = -5
            answer.append(-6)
            for name in self.LISTS:
                self.assertIsNot(answer, one[name])
                self.assertEqual(one[name], copies[name], name)
            again = faces_of(**one)
            self.assertIsNot(again, answer)
            self.assertEqual(again, expected)

    def test_a_second_call_answers_like_the_first(self):
        one, other = self.some_solid(), solid(TRIANGLE, index=[0, 1, 2, 2, 1, 0])
        first = faces_of(**one)
        self.assertEqual(faces_of(**other), [2])
        self.assertEqual(faces_of(**changed(one, h=1025)), [-1])
        self.assertEqual(faces_of(**changed(one, m=[BEYOND] * 16)), [-2])
        self.assertEqual(faces_of(**solid(index=[])), [0])
        self.assertEqual(faces_of(**one), first)
        self.assertEqual(faces_of(**other), [2])

    def test_the_calls_know_nothing_of_one_another(self):
        drawn = scene(TRIANGLE, mode=12)
        counted = self.some_solid()
        first = (clear(2, 2, 7, [1] * 4, [2] * 4), draw(**drawn), faces_of(**counted))
        for order in itertools.permutations(range(3)):
            calls = (lambda: clear(2, 2, 7, [1] * 4, [2] * 4), lambda: draw(**drawn), lambda: faces_of(**counted))
            for k in order:
                self.assertTrue(calls[k]() == first[k], order)

    def test_one_list_handed_in_twice(self):
        both = [(k * k * 31 + k) % 300 for k in range(3000)]
        copy = list(both)
        m = with_matrix(m0=BEYOND - 1, m5=BEYOND - 1, m15=BEYOND - 1)
        answer = faces_of(8, 8, 300, 1000, m, both, both)
        self.assertEqual(answer, plain_faces(8, 8, 300, 1000, m, copy, copy))
        self.assertGreater(answer[0], 100)
        self.assertEqual(both, copy)

    def test_nothing_is_printed(self):
        out, err = io.StringIO(), io.StringIO()
        with contextlib.redirect_stdout(out), contextlib.redirect_stderr(err):
            for one in self.some_solids():
                faces_of(**one)
        self.assertEqual((out.getvalue(), err.getvalue()), ("", ""))


if __name__ == "__main__":
    unittest.main()
