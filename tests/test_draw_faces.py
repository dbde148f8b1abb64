"""Promise 2: a face is moved, cut, put on the picture and taken as triangles."""

import itertools
import unittest

from plain_drawing import ONE, corner, first_difference, plain_draw, scene, shape, spot
from solidpicture.drawing import draw

# On a picture of 8 by 8 pixels with w of 65536, 1024 of x is a sixteenth of a pixel.
SIXTEENTH = 1024


class FaceCase(unittest.TestCase):
    def drawn(self, *corners, **more):
        """What draw answers, once it is seen that the second reckoning answers the same."""
        one = scene(corners, **more)
        answer = draw(**one)
        self.assertIsNone(first_difference(answer, plain_draw(**one)))
        return answer

    def depth_of(self, *corners, **more):
        """The depth that one face keeps on the one pixel of a picture."""
        return self.drawn(*corners, w=1, h=1, mode=8, **more)[2]


def square(left, top, right, bottom, **more):
    """The corners and the index of two faces that make a square."""
    corners = [spot(left, top, **more), spot(right, top, **more), spot(right, bottom, **more), spot(left, bottom, **more)]
    return corners, [0, 1, 2, 0, 2, 3]


def place(X, Y):
    """A corner at (X, Y), with w of 4096: there 64 of x is a sixteenth of a pixel."""
    return spot(X, Y, w=4096)


def plane(z, w=65536):
    """Three corners of one depth round the one pixel of a picture."""
    return [corner(-w, w, z, w), corner(3 * w, w, z, w), corner(-w, -3 * w, z, w)]


def changed_matrix(**changes):
    """ONE with other numbers: m3=5 puts 5 in the place 3."""
    m = list(ONE)
    for name, number in changes.items():
        m[int(name[1:])] = number
    return m


class Moved(FaceCase):
    def two_by_two(self, m, z=0):
        """Where the four middle pixels of the picture come to lie."""
        corners, index = square(48, 48, 80, 80, z=z)
        return shape(self.drawn(*corners, index=index, m=m))

    def test_nothing_is_moved_by_one(self):
        self.assertEqual(self.two_by_two(ONE), ["." * 8] * 3 + ["...##..."] * 2 + ["." * 8] * 3)

    def test_row_of_x(self):
        right = ["." * 8] * 3 + ["....##.."] * 2 + ["." * 8] * 3
        self.assertEqual(self.two_by_two(changed_matrix(m3=16384)), right)
        self.assertEqual(self.two_by_two(changed_matrix(m2=65536), z=16384), right)
        wide = ["." * 8] * 3 + ["..####.."] * 2 + ["." * 8] * 3
        self.assertEqual(self.two_by_two(changed_matrix(m0=131072)), wide)
        # y goes from 16384 to -16384: twice that is one pixel to the right in the upper row, to the left in the lower.
        slant = ["." * 8] * 3 + ["....##..", "..##...."] + ["." * 8] * 3
        self.assertEqual(self.two_by_two(changed_matrix(m1=131072)), slant)

    def test_row_of_y(self):
        up = ["." * 8] * 2 + ["...##..."] * 2 + ["." * 8] * 4
        self.assertEqual(self.two_by_two(changed_matrix(m7=16384)), up)
        self.assertEqual(self.two_by_two(changed_matrix(m6=65536), z=16384), up)
        high = ["." * 8] * 2 + ["...##..."] * 4 + ["." * 8] * 2
        self.assertEqual(self.two_by_two(changed_matrix(m5=131072)), high)
        # x goes from -16384 to 16384: one pixel down in the left column, up in the right one.
        slant = ["." * 8] * 2 + ["....#..."] * 2 + ["...#...."] * 2 + ["." * 8] * 2
        self.assertEqual(self.two_by_two(changed_matrix(m4=131072)), slant)

    def test_row_of_z(self):
        self.assertEqual(self.depth_of(*plane(0), m=changed_matrix(m11=16384)), 2**23 + 2**21)
        self.assertEqual(self.depth_of(*plane(16384), m=changed_matrix(m10=131072)), 2**23 + 2**22)
        # The middles of two pixels lie at x of -32768 and 32768, or at y of 32768 and -32768; an eighth of it is z.
        beside = self.drawn(*plane(0), w=2, h=1, mode=8, m=changed_matrix(m8=8192))
        self.assertEqual(beside[3:], [2**23 - 2**19, 2**23 + 2**19])
        under = self.drawn(*plane(0), w=1, h=2, mode=8, m=changed_matrix(m9=8192))
        self.assertEqual(under[3:], [2**23 + 2**19, 2**23 - 2**19])

    def test_row_of_w(self):
        # Twice the w: half the size on the picture.
        corners, index = square(32, 32, 96, 96, z=65536)
        half = ["." * 8] * 3 + ["...##..."] * 2 + ["." * 8] * 3
        for m in (changed_matrix(m15=131072), changed_matrix(m14=65536)):
            self.assertEqual(shape(self.drawn(*corners, index=index, m=m)), half)
        # w of 81920 where x (or y) is 32768, of 49152 where it is -32768: one end at 89 (39), the other at 21 (107).
        wide = ["." * 8, ".#......"] + [".#####.."] * 4 + [".#......", "." * 8]
        self.assertEqual(shape(self.drawn(*corners, index=index, m=changed_matrix(m12=32768))), wide)
        high = ["." * 8] * 2 + ["..####.."] * 4 + [".######.", "." * 8]
        self.assertEqual(shape(self.drawn(*corners, index=index, m=changed_matrix(m13=32768))), high)

    def test_quotients_go_towards_below(self):
        # Sums of 65536 times 5 and what is left over: 5, whatever is left over.
        for total, depth in ((327680, 5), (327681, 5), (393215, 5), (393216, 6), (1, 0), (65535, 0)):
            whole, left = divmod(total, 65536)
            corners = plane(1)
            m = changed_matrix(m10=left, m11=whole)
            self.assertEqual(self.depth_of(*corners, m=m), 2**23 + 128 * depth, total)
        for total, depth in ((-1, -1), (-65535, -1), (-65536, -1), (-65537, -2), (-327679, -5), (-327681, -6)):
            m = changed_matrix(m10=total, m11=0)
            self.assertEqual(self.depth_of(*plane(1), m=m), 2**23 + 128 * depth, total)

    def test_the_sum_is_divided_not_its_parts(self):
        # A half of z and one and a half of w are 2; each by itself towards below would make 1.
        m = changed_matrix(m10=32768, m11=1)
        self.assertEqual(self.depth_of(*plane(1, 98304), m=m), 2**23 + 170)

    def test_x_goes_towards_below(self):
        # So wide a picture that one of x is two sixteenths of a pixel: the left edge lies at 8192 + 2 x.
        m = changed_matrix(m0=1)
        for x, first in (
            (4 * 65536, 512),
            (4 * 65536 + 65535, 512),
            (5 * 65536, 513),
            (-4 * 65536, 511),
            (-4 * 65536 + 1, 511),
            (-3 * 65536 - 1, 511),
            (-3 * 65536, 512),
        ):
            far = 2**24 - 1
            corners = [corner(x, 4096, w=4096), corner(far, 4096, w=4096), corner(far, -4096, w=4096)]
            corners.append(corner(x, -4096, w=4096))
            answer = self.drawn(*corners, index=[0, 1, 2, 0, 2, 3], m=m, w=1024, h=1)
            self.assertEqual(shape(answer, 1024)[0].index("#"), first, x)

    def test_y_goes_towards_below(self):
        # The same for y, where the upper edge lies at 8192 - 2 y.
        m = changed_matrix(m5=1)
        for y, first in (
            (4 * 65536, 511),
            (4 * 65536 - 1, 512),
            (3 * 65536 + 1, 512),
            (-4 * 65536, 512),
            (-4 * 65536 - 1, 513),
            (-5 * 65536 + 1, 513),
            (-5 * 65536, 513),
        ):
            low = 1 - 2**24
            corners = [corner(-4096, y, w=4096), corner(4096, y, w=4096), corner(4096, low, w=4096)]
            corners.append(corner(-4096, low, w=4096))
            answer = self.drawn(*corners, index=[0, 1, 2, 0, 2, 3], m=m, w=1, h=1024)
            self.assertEqual(shape(answer, 1).index("#"), first, y)

    def test_w_goes_towards_below(self):
        # w is 8192 and add parts of 65536, z is 4096.
        corners = [corner(-8192, 8192, 1, 8192), corner(24576, 8192, 1, 8192), corner(-8192, -24576, 1, 8192)]
        for add, w in ((0, 8192), (1, 8192), (65535, 8192), (65536, 8193), (-1, 8191), (-65536, 8191), (-65537, 8190)):
            m = changed_matrix(m10=0, m11=32768, m14=add)
            self.assertEqual(self.depth_of(*corners, m=m), 2**23 + 2**23 * 4096 // w, add)

    def test_largest_numbers(self):
        most = 2**24 - 1
        for signs in itertools.product((1, -1), repeat=4):
            m = [most * sign for sign in signs] * 4
            corners = [corner(most, -most, most, most), corner(-most, most, -most, most), corner(most, most, -most, 1)]
            self.drawn(*corners, m=m, mode=60)


class Cut(FaceCase):
    def test_one_in_front(self):
        # Half of the way from 8192 to 0 lies 4096: the corners (128, 128) and (0, 128) are the cut's.
        top, right, left = corner(0, 8192, w=8192), corner(8192, -16384, w=0), corner(-8192, -16384, w=0)
        expected = [
            "........",
            "...##...",
            "...##...",
            "..####..",
            "..####..",
            ".######.",
            ".######.",
            "########",
        ]
        for corners in ((top, right, left), (right, left, top), (left, top, right)):
            self.assertEqual(shape(self.drawn(*corners)), expected)
            self.assertEqual(shape(self.drawn(*corners, mode=1)), expected)
            self.assertEqual(shape(self.drawn(*corners, mode=2)), ["." * 8] * 8)

    def test_two_in_front(self):
        # The corner at w of 0 is cut to (128, 96) and (0, 96), halfway to both others.
        left, right, low = corner(-8192, 8192, w=8192), corner(8192, 8192, w=8192), corner(0, -12288, w=0)
        for corners in ((left, right, low), (right, low, left), (low, left, right)):
            self.assertEqual(shape(self.drawn(*corners)), ["#" * 8] * 6 + ["." * 8] * 2)
            self.assertEqual(shape(self.drawn(*corners, mode=1)), ["#" * 8] * 6 + ["." * 8] * 2)
            self.assertEqual(shape(self.drawn(*corners, mode=2)), ["." * 8] * 8)

    def test_all_or_none_in_front(self):
        corners = [spot(0, 0, w=4096), spot(128, 0, w=8192), spot(0, 128, w=65536)]
        self.assertEqual(shape(self.drawn(*corners)), ["#" * (7 - k) + "." * (k + 1) for k in range(8)])
        for places in itertools.product((4095, 0, -1, -4096, -65536), repeat=3):
            behind = [one[:3] + [w] + one[4:] for one, w in zip(corners, places)]
            self.assertEqual(shape(self.drawn(*behind)), ["." * 8] * 8, places)

    def test_the_plane_itself_is_in_front(self):
        on = [corner(-4096, 4096, w=4096), corner(4096, 4096, w=4096), corner(-4096, -4096, w=4096)]
        self.assertEqual(shape(self.drawn(*on)), ["#" * (7 - k) + "." * (k + 1) for k in range(8)])
        for k in range(3):
            # One corner behind: the cut gives the other two once more, and nothing is between them.
            under = [list(one) for one in on]
            under[k][3] = 4095
            self.assertEqual(shape(self.drawn(*under)), ["." * 8] * 8)

    def test_a_corner_just_on_the_plane_beside_one_behind(self):
        corners = [corner(-4096, 4096, w=4096), corner(8192, 8192, w=8192), corner(-4096, -8192, w=0)]
        for three in itertools.permutations(corners):
            self.assertIn("#", "".join(shape(self.drawn(*three))))

    def test_colors_of_new_corners(self):
        # Weights 2, 1, 1 and Q of 32768, 65536, 65536 make thirds of all three.
        def thirds(front, behind):
            top = corner(0, 8192, w=8192, red=front, green=0, blue=0)
            right = corner(16384, -16384, w=0, red=behind, green=0, blue=0)
            left = corner(-16384, -16384, w=0, red=behind, green=0, blue=0)
            return self.drawn(top, right, left, w=1, h=1)[1]

        # New is 65535 - 32768, the third of 65535 + 2 times 32767 is 43689, and that is 170 times 256 and some.
        self.assertEqual(thirds(65535, 0), 0xFF000000 + (170 << 16))
        self.assertEqual(thirds(0, 65535), 0xFF000000 + (85 << 16))
        # 256 and 255: new is 255 (towards below), a third of 766 is 255 and not yet 256.
        self.assertEqual(thirds(256, 255), 0xFF000000)
        self.assertEqual(thirds(256, 256), 0xFF010000)
        self.assertEqual(thirds(256, 258), 0xFF010000)

    def test_pattern_places_of_new_corners(self):
        pattern = list(range(4096))
        for front, behind, column in ((1024, 1023, 0), (1024, 1024, 1), (1023, 1025, 0), (1022, 1028, 1), (0, -1, 63)):
            for name, step in (("u", 1), ("v", 64)):
                top = corner(0, 8192, w=8192, **{name: front})
                right = corner(16384, -16384, w=0, **{name: behind})
                left = corner(-16384, -16384, w=0, **{name: behind})
                answer = self.drawn(top, right, left, w=1, h=1, mode=16, pattern=pattern)
                self.assertEqual(answer[1], column * step, (name, front, behind))

    def test_depth_of_new_corners(self):
        # z goes from 0 halfway to 2048, which is 1024 of 4096 there: a quarter of 2^23, for half of the weight.
        top = corner(0, 8192, 0, 8192)
        right, left = corner(16384, -16384, 2048, 0), corner(-16384, -16384, 2048, 0)
        self.assertEqual(self.depth_of(top, right, left), 2**23 + 2**20)
        right, left = corner(16384, -16384, -2047, 0), corner(-16384, -16384, -2047, 0)
        # Half of -2047 is -1024 towards below.
        self.assertEqual(self.depth_of(top, right, left), 2**23 - 2**20)

    def test_the_way_to_the_plane_goes_towards_below(self):
        # t is two thirds of 65536: 43690. Of 3145728 that is 2097120, so that z is 0 at both new corners, which lie
        # at (24, 16) and (-8, 16); one of t more would be 48 of z. The corner in front has a depth of 0.
        top = corner(0, 12288, -2097120, 12288)
        right, left = corner(12289, -12288, 1048608, 0), corner(-12288, -12288, 1048608, 0)
        self.assertEqual(self.depth_of(top, right, left), 2**22)

    def test_the_order_of_the_corners_that_are_left(self):
        # Depths held to their bounds lie on no plane, so the picture tells which diagonal parts the four corners.
        pattern = [k * 1048573 % 2**32 for k in range(4096)]
        corners = [
            corner(-9000, 7000, -30000, 9000, red=65535, green=9, blue=700, u=0, v=3000),
            corner(7500, 8000, 2000, 8000, red=100, green=65535, blue=40000, u=70000, v=-9000),
            corner(900, -9500, 14000, -3000, red=5000, green=0, blue=65535, cover=20000, u=-40000, v=66000),
        ]
        pictures = []
        for three in itertools.permutations(corners):
            for mode in (8, 28):
                pictures.append(tuple(self.drawn(*three, w=16, h=16, mode=mode, pattern=pattern)))
        self.assertGreater(len(set(pictures)), 2)

    def test_every_side_of_the_plane(self):
        for places in itertools.product((-70000, 0, 4095, 4096, 4097, 65536), repeat=3):
            corners = [
                corner(-9000, 5000, 70, places[0], red=0, u=-5000),
                corner(8000, 6000, -90, places[1], green=0, cover=0, v=90000),
                corner(1000, -7000, 900, places[2], blue=1000, u=70000),
            ]
            self.drawn(*corners, mode=28)

    def test_reckoned_from_the_corner_in_front(self):
        # t is rounded, so that the way back from the other corner would end elsewhere.
        top = corner(0, 8192, 1, 8191)
        far = corner(2000003, -3000017, -1000003, -999983)
        side = corner(-2000003, -3000017, 1000003, -777777)
        for three in itertools.permutations((top, far, side)):
            self.drawn(*three, w=32, h=32, mode=8)


class PutOnThePicture(FaceCase):
    FILLED = ["########"] * 8
    EMPTY = ["........"] * 8

    def check_shape(self, corners, expected):
        for three in (corners, corners[::-1]):
            self.assertEqual(shape(self.drawn(*three)), expected)

    def test_the_farthest_places(self):
        for far, seen in ((32768, True), (32769, False), (40000, False)):
            expected = self.FILLED if seen else self.EMPTY
            self.check_shape([place(far, 64), place(-600, 2000), place(-600, -2000)], expected)
            self.check_shape([place(64, far), place(-2000, -600), place(2000, -600)], expected)
        for far, seen in ((-32768, True), (-32769, False), (-40000, False)):
            expected = self.FILLED if seen else self.EMPTY
            self.check_shape([place(far, 64), place(600, -2000), place(600, 2000)], expected)
            self.check_shape([place(64, far), place(2000, 600), place(-2000, 600)], expected)

    def test_all_four_bounds_at_once(self):
        corners = [place(-32768, 32768), place(64, -32768), place(32768, 32768)]
        self.check_shape(corners, self.FILLED)

    def test_the_quotient_is_bounded_not_the_fraction(self):
        # Up to 63 of 64 parts more are still the same whole number; one part less is already the next.
        for part, seen in ((0, True), (63, True), (64, False)):
            expected = self.FILLED if seen else self.EMPTY
            right = [place(32768, 64), place(-600, 2000), place(-600, -2000)]
            right[0][0] += part
            self.check_shape(right, expected)
            top = [place(64, -32768), place(2000, 600), place(-2000, 600)]
            top[0][1] += part
            self.check_shape(top, expected)
        for part, seen in ((0, True), (1, False)):
            expected = self.FILLED if seen else self.EMPTY
            left = [place(-32768, 64), place(600, -2000), place(600, 2000)]
            left[0][0] -= part
            self.check_shape(left, expected)
            bottom = [place(64, 32768), place(-2000, -600), place(2000, -600)]
            bottom[0][1] -= part
            self.check_shape(bottom, expected)

    def test_one_of_four_corners_beyond(self):
        # Cut are (64, 300), halfway to the left, and (64 + x 15 / 1024, -57), 15 of 16 parts of the way to the top.
        for x, expected in ((2232593, self.FILLED), (2232661, self.FILLED), (2232662, self.EMPTY)):
            corners = [corner(-x, 0, w=8192), corner(0, 577536), corner(x, -30208, w=0)]
            for three in itertools.permutations(corners):
                self.check_shape(list(three), expected)

    def test_a_face_that_is_left_out_leaves_the_others(self):
        near = [spot(0, 0), spot(128, 0), spot(0, 128)]
        far = [place(32769, 64), place(-600, 2000), place(-600, -2000)]
        answer = self.drawn(*(near + far), index=[3, 4, 5, 0, 1, 2, 5, 4, 3])
        self.assertEqual(shape(answer), ["#" * (7 - k) + "." * (k + 1) for k in range(8)])

    def test_x_goes_towards_below(self):
        for x, row in (
            (8 * SIXTEENTH, "....####"),
            (9 * SIXTEENTH - 1, "....####"),
            (9 * SIXTEENTH, ".....###"),
            (-8 * SIXTEENTH, "...#####"),
            (-7 * SIXTEENTH - 1, "...#####"),
            (-7 * SIXTEENTH, "....####"),
        ):
            corners = [corner(x, 131072), corner(131072, 131072), corner(131072, -131072), corner(x, -131072)]
            answer = self.drawn(*corners, index=[0, 1, 2, 0, 2, 3])
            self.assertEqual(shape(answer), [row] * 8, x)

    def test_y_is_taken_off_as_a_whole_quotient(self):
        for y, rows in (
            (8 * SIXTEENTH, 5),
            (8 * SIXTEENTH - 1, 4),
            (9 * SIXTEENTH - 1, 5),
            (-8 * SIXTEENTH, 4),
            (-8 * SIXTEENTH - 1, 3),
            (-9 * SIXTEENTH, 3),
        ):
            corners = [corner(-131072, y), corner(131072, y), corner(131072, -131072), corner(-131072, -131072)]
            answer = self.drawn(*corners, index=[0, 1, 2, 0, 2, 3])
            self.assertEqual(shape(answer), ["." * 8] * (8 - rows) + ["#" * 8] * rows, y)

    def test_width_and_height_are_the_picture_s(self):
        corners = [corner(-65536, 65536), corner(65536, 65536), corner(65536, -65536), corner(-65536, -65536)]
        for w, h in ((1, 1), (2, 5), (5, 2), (16, 3), (3, 16), (31, 7)):
            answer = self.drawn(*corners, index=[0, 1, 2, 0, 2, 3], w=w, h=h)
            self.assertEqual(shape(answer, w), ["#" * w] * h)
        half = [corner(-32768, 32768), corner(32768, 32768), corner(32768, -32768), corner(-32768, -32768)]
        answer = self.drawn(*half, index=[0, 1, 2, 0, 2, 3], w=16, h=4)
        self.assertEqual(shape(answer, 16), ["." * 16] + ["....########...."] * 2 + ["." * 16])

    def test_depths(self):
        for z, w, depth in (
            (0, 65536, 2**23),
            (1, 65536, 2**23 + 128),
            (-1, 65536, 2**23 - 128),
            (65535, 65536, 2**24 - 128),
            (65536, 65536, 2**24 - 1),
            (65537, 65536, 2**24 - 1),
            (2**24 - 1, 65536, 2**24 - 1),
            (-65535, 65536, 128),
            (-65536, 65536, 0),
            (-65537, 65536, 0),
            (1 - 2**24, 65536, 0),
            (1, 12288, 2**23 + 682),
            (-1, 12288, 2**23 - 683),
            (4095, 4096, 2**24 - 2048),
            (4096, 4096, 2**24 - 1),
            (-4096, 4096, 0),
            (5000000, 5000001, 2**24 - 2),
        ):
            self.assertEqual(self.depth_of(*plane(z, w)), depth, (z, w))

    def test_a_depth_beyond_is_held_before_it_is_weighted(self):
        # Weights 2, 1, 1 for depths of 2^23, 2^24 - 1 (held) and 2^23.
        corners = [spot(8, 0, 1), spot(24, 16, 1, z=500000), spot(-8, 16, 1)]
        self.assertEqual(self.depth_of(*corners), (3 * 2**23 + 2**24 - 1) // 4)
        corners[1] = spot(24, 16, 1, z=-500000)
        self.assertEqual(self.depth_of(*corners), 3 * 2**23 // 4)

    def test_share_of_at_least_one(self):
        # w grows to 256 times itself: beyond 2^28 the quotient of 2^28 and it is 0.
        m = [16777215, 0, 0, 0, 0, 16777215, 0, 0, 0, 0, 65536, 0, 0, 0, 0, 16777215]
        for w in (1048575, 1048576, 1048577, 1048640, 2097152, 4194304, 16777215):
            x = w // 2
            corners = [
                corner(-x, x, w=w, red=65535, green=0, blue=0),
                corner(x, x, w=w, red=0, green=65535, blue=0),
                corner(0, -x, w=w, red=0, green=0, blue=65535, cover=9000),
            ]
            answer = self.drawn(*corners, m=m, mode=28)
            self.assertIn("#", "".join(shape(answer)), w)
            corners[1] = corner(2000, 2000, w=4096, red=0, green=65535, blue=0)
            self.drawn(*corners, m=m, mode=28)

    def test_share_goes_towards_below(self):
        # 2^28 + 1 is 17 times 15790321, so 2^28 / 15790321 is 16; beside 32 and 32, the weights 2, 1, 1 make thirds.
        corners = [
            corner(0, 15790321, w=15790321, green=0, blue=0),
            spot(16, 16, 1, w=2**23, red=0, blue=0),
            spot(0, 16, 1, w=2**23, red=0, green=0),
        ]
        self.assertEqual(self.drawn(*corners, w=1, h=1)[1], 0xFF555555)

    def test_share_of_one_beside_two(self):
        # 2^28 / W is 2, 0 and 1, so that the weights 2, 1, 1 count 4, 1, 1.
        m = [8388608, 0, 0, 0, 0, 8388608, 0, 0, 0, 0, 65536, 0, 0, 0, 0, 8388608]
        corners = [
            corner(0, 2**20, w=2**20, red=65535, green=0, blue=0),
            corner(2**23, -2**22, w=2**22, red=0, green=65535, blue=0),
            corner(-2**22, -2**21, w=2**21, red=0, green=0, blue=65535),
        ]
        answer = self.drawn(*corners, m=m, w=1, h=1)
        self.assertEqual(answer[1], 0xFF000000 + (170 << 16) + (42 << 8) + 42)


class Triangles(FaceCase):
    def test_the_first_triangle_is_drawn_before_the_second(self):
        # So far away is the corner behind that rounding lets the two triangles cover one another.
        for places in (
            ((3449, -2619, 4343), (15470349, 13338432, -16777215), (-6081, -5738, 8706)),
            ((-2475, -3151, 4298), (10871694, 13131961, -16777215), (-1910, -7059, 7624)),
            ((9163758, -16711652, -16777215), (-7039, -5919, 7041), (-551, 3077, 4294)),
        ):
            corners = [
                corner(x, y, w=w, red=65535 * (k == 0), green=65535 * (k == 1), blue=65535 * (k == 2), cover=40000)
                for k, (x, y, w) in enumerate(places)
            ]
            for mode in (0, 12, 32, 44):
                self.drawn(*corners, w=64, h=64, mode=mode)

    def test_a_flat_first_triangle_leaves_the_second(self):
        # The first corner lies just on the plane: the cut gives it twice.
        corners = [corner(-4096, 4096, w=4096), corner(-8192, -8192, w=0), corner(8192, 8192, w=8192)]
        self.assertIn("#", "".join(shape(self.drawn(*corners))))

    def test_one_corner_named_more_than_once(self):
        corners = [spot(0, 0), spot(128, 0), spot(0, 128)]
        for index in itertools.product(range(3), repeat=3):
            answer = self.drawn(*corners, index=index)
            self.assertEqual("#" in "".join(shape(answer)), len(set(index)) == 3, index)


if __name__ == "__main__":
    unittest.main()
