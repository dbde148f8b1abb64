"""Promise 2: which pixels are a triangle's: its side, its edges, the window."""

import itertools
import unittest

from plain_drawing import first_difference, plain_draw, scene, shape, spot
from solidpicture.drawing import draw

EMPTY = ["........"] * 8
UPPER_LEFT = ["#" * (7 - k) + "." * (k + 1) for k in range(8)]
LOWER_RIGHT = ["." * (7 - k) + "#" * (k + 1) for k in range(8)]


class TriangleCase(unittest.TestCase):
    def drawn(self, places, **more):
        """What draw answers for corners at such places, once it is seen that the second reckoning answers the same."""
        one = scene([spot(X, Y) for X, Y in places], **more)
        answer = draw(**one)
        self.assertIsNone(first_difference(answer, plain_draw(**one)))
        return answer

    def shape_of(self, *places, **more):
        return shape(self.drawn(places, **more))

    def times_drawn(self, triangles):
        """How many of the triangles own each pixel."""
        counts = [0] * 64
        for places in triangles:
            for k, sign in enumerate("".join(self.shape_of(*places))):
                counts[k] += sign == "#"
        return counts


class Sides(TriangleCase):
    BY = ((0, 0), (128, 0), (0, 128))
    AGAINST = ((0, 0), (0, 128), (128, 0))

    def turned(self, places):
        return [places[k:] + places[:k] for k in range(3)]

    def test_by_the_clock(self):
        for places in self.turned(self.BY):
            for mode, expected in ((0, UPPER_LEFT), (1, UPPER_LEFT), (2, EMPTY)):
                for more in (0, 4, 8, 16, 32, 60):
                    self.assertEqual(self.shape_of(*places, mode=mode + more), expected, (places, mode))

    def test_against_the_clock(self):
        for places in self.turned(self.AGAINST):
            for mode, expected in ((0, UPPER_LEFT), (1, EMPTY), (2, UPPER_LEFT)):
                for more in (0, 4, 8, 16, 32, 60):
                    self.assertEqual(self.shape_of(*places, mode=mode + more), expected, (places, mode))

    def test_flat(self):
        for places in (
            ((0, 0), (64, 64), (128, 128)),
            ((0, 8), (64, 8), (128, 8)),
            ((8, 0), (8, 64), (8, 128)),
            ((8, 8), (8, 8), (8, 8)),
            ((8, 8), (72, 72), (8, 8)),
        ):
            for three in itertools.permutations(places):
                for mode in (0, 1, 2):
                    self.assertEqual(self.shape_of(*three, mode=mode), EMPTY, three)

    def test_hardly_not_flat(self):
        # N is 1 or -1: there is a pixel's middle on an edge of its own, but none within.
        places = ((8, 8), (9, 8), (8, 9))
        one_pixel = ["#......."] + ["........"] * 7
        for three in itertools.permutations(places):
            self.assertEqual(self.shape_of(*three), one_pixel)
        for three, mode in ((places, 2), (places[::-1], 1)):
            self.assertEqual(self.shape_of(*three, mode=mode), EMPTY)

    def test_the_corners_keep_their_looks_when_exchanged(self):
        corners = [
            spot(0, 0, red=65535, green=0, blue=0, z=0),
            spot(128, 0, red=0, green=65535, blue=0, z=20000),
            spot(0, 128, red=0, green=0, blue=65535, z=-9000),
        ]
        answers = []
        for three in itertools.permutations(corners):
            one = scene(three, mode=8)
            answers.append(draw(**one))
            self.assertIsNone(first_difference(answers[-1], plain_draw(**one)))
        # Weights of whole corners do not depend on the order, so neither does the picture.
        for answer in answers:
            self.assertIsNone(first_difference(answer, answers[0]))
        # The first pixel is nearly the first corner, the ends of both edges nearly the others.
        pixels = answers[0][1:65]
        self.assertGreater(pixels[0] >> 16 & 255, 200)
        self.assertGreater(pixels[6] >> 8 & 255, 200)
        self.assertGreater(pixels[48] & 255, 200)


class Edges(TriangleCase):
    def test_level_edges(self):
        # Middles of the pixels of rows 1 and 4 lie just on the upper and the lower edge.
        square = [((0, 24), (128, 24), (128, 72)), ((0, 24), (128, 72), (0, 72))]
        owned = self.times_drawn(square)
        self.assertEqual(owned, [0] * 8 + [1] * 24 + [0] * 32)

    def test_upright_edges(self):
        # The same for the columns 1 and 4: the left edge goes up, the right one down.
        square = [((24, 0), (72, 0), (72, 128)), ((24, 0), (72, 128), (24, 128))]
        owned = self.times_drawn(square)
        self.assertEqual(owned, [0, 1, 1, 1, 0, 0, 0, 0] * 8)

    def test_slanting_edges(self):
        # The middles of one diagonal lie just on the long edge; they are the triangle's that goes up there.
        self.assertEqual(self.shape_of((0, 0), (128, 0), (0, 128)), UPPER_LEFT)
        self.assertEqual(self.shape_of((128, 0), (128, 128), (0, 128)), LOWER_RIGHT)
        lower_left = ["#" * k + "." * (8 - k) for k in range(8)]
        self.assertEqual(self.shape_of((0, 0), (128, 128), (0, 128)), lower_left)
        upper_right = ["." * k + "#" * (8 - k) for k in range(8)]
        self.assertEqual(self.shape_of((0, 0), (128, 0), (128, 128)), upper_right)

    def test_corners_on_middles(self):
        # All three corners are middles of pixels; only the upper left one lies on two edges of the triangle's own.
        self.assertEqual(self.shape_of((24, 24), (88, 24), (24, 88)), [
            "........",
            ".####...",
            ".###....",
            ".##.....",
            ".#......",
            "........",
            "........",
            "........",
        ])
        self.assertEqual(self.shape_of((88, 88), (24, 88), (88, 24)), [
            "........",
            "........",
            "....#...",
            "...##...",
            "..###...",
            "........",
            "........",
            "........",
        ])

    def test_one_sixteenth_beside_a_middle(self):
        for X, seen in ((7, True), (8, True), (9, False)):
            self.assertEqual(self.shape_of((X, 0), (64, 0), (X, 64))[0][0] == "#", seen, X)
            self.assertEqual(self.shape_of((0, X), (64, X), (0, 64))[0][0] == "#", seen, X)
        for X, seen in ((7, False), (8, False), (9, True)):
            self.assertEqual(self.shape_of((X, 0), (X, 64), (-64, 0))[0][0] == "#", seen, X)
            self.assertEqual(self.shape_of((0, X), (0, -64), (64, X))[0][0] == "#", seen, X)

    def test_a_middle_by_one_beyond_an_edge(self):
        # E of the edge from (7, 24) to (9, -7) is -1 at the middle (8, 8), and 1 one sixteenth higher.
        for lift, seen in ((0, False), (-1, True)):
            left = ((7, 24 + lift), (9, -7 + lift), (64, 60))
            self.assertEqual(self.shape_of(*left)[0][0] == "#", seen, lift)
            # Going down, the edge is another triangle's.
            right = ((9, -7 + lift), (7, 24 + lift), (-64, 60))
            self.assertEqual(self.shape_of(*right)[0][0] == "#", not seen, lift)

    def test_a_fan_gives_each_pixel_once(self):
        rim = ((0, 0), (64, 0), (128, 0), (128, 64), (128, 128), (64, 128), (0, 128), (0, 64))
        for middle in ((72, 72), (56, 56), (64, 64), (8, 120), (71, 73), (40, 88)):
            fan = [(middle, rim[k], rim[(k + 1) % 8]) for k in range(8)]
            self.assertEqual(self.times_drawn(fan), [1] * 64, middle)
            back = [(middle, second, first) for middle, first, second in fan]
            self.assertEqual(self.times_drawn(back), [1] * 64, middle)

    def test_a_fan_within_the_picture(self):
        rim = ((24, 8), (72, 8), (104, 40), (120, 88), (88, 120), (56, 120), (8, 104), (8, 40))
        whole = None
        for middle in ((56, 56), (72, 72), (72, 56), (64, 64), (60, 71)):
            fan = [(middle, rim[k], rim[(k + 1) % 8]) for k in range(8)]
            counts = self.times_drawn(fan)
            self.assertLessEqual(max(counts), 1)
            # Where the triangles meet doesn't matter for what they cover together.
            whole = counts if whole is None else whole
            self.assertEqual(counts, whole, middle)

    def test_two_triangles_on_all_kinds_of_edges(self):
        ends = ((8, 8), (120, 8), (120, 120), (8, 120), (8, 56), (72, 8), (120, 72), (56, 120))
        for one, other in itertools.combinations(ends, 2):
            far = ((-500, -300), (700, -400), (600, 800), (-400, 500))
            for first, second in itertools.combinations(far, 2):
                cross = (other[0] - one[0]) * (first[1] - one[1]) - (other[1] - one[1]) * (first[0] - one[0])
                across = (other[0] - one[0]) * (second[1] - one[1]) - (other[1] - one[1]) * (second[0] - one[0])
                if (cross > 0) != (across > 0):
                    counts = self.times_drawn([(one, other, first), (one, other, second)])
                    self.assertLessEqual(max(counts), 1, (one, other, first, second))

    def test_many_triangles(self):
        places = [(-40, 20), (8, 8), (24, 72), (56, 120), (72, 40), (121, 7), (136, 88), (150, -30)]
        for three in itertools.permutations(places, 3):
            self.drawn(three, mode=8)

    def test_rows_and_columns_just_at_the_picture_s_rim(self):
        for places in (
            ((-200, -200), (8, 8), (-200, 8)),
            ((120, 120), (300, 120), (120, 300)),
            ((120, 120), (120, -300), (-300, 120)),
            ((-900, 120), (900, 120), (64, 121)),
            ((-900, 7), (900, 7), (64, 9)),
            ((7, -900), (9, 64), (7, 900)),
        ):
            for three in itertools.permutations(places):
                self.drawn(three)


class Window(TriangleCase):
    WHOLE = ((-100, -100), (500, -100), (-100, 500))

    def seen(self, *window):
        return self.shape_of(*self.WHOLE, window=list(window))

    def box(self, x0, y0, x1, y1):
        return ["".join("#" if x0 <= i < x1 and y0 <= j < y1 else "." for i in range(8)) for j in range(8)]

    def test_within(self):
        self.assertEqual(self.seen(2, 3, 5, 7), [
            "........",
            "........",
            "........",
            "..###...",
            "..###...",
            "..###...",
            "..###...",
            "........",
        ])

    def test_all_small_windows(self):
        for window in itertools.product((-1, 0, 1, 4, 7, 8, 9), repeat=4):
            self.assertEqual(self.seen(*window), self.box(*window), window)

    def test_empty(self):
        for window in ((3, 3, 3, 3), (0, 0, 0, 8), (0, 0, 8, 0), (5, 0, 4, 8), (0, 5, 8, 4), (8, 8, 0, 0)):
            self.assertEqual(self.seen(*window), EMPTY, window)

    def test_beyond_the_picture(self):
        far = 2**24 - 1
        self.assertEqual(self.seen(-far, -far, far, far), ["########"] * 8)
        self.assertEqual(self.seen(-far, 2, far, 3), self.box(0, 2, 8, 3))
        self.assertEqual(self.seen(6, -far, far, far), self.box(6, 0, 8, 8))
        for window in ((8, 0, far, 8), (0, 8, 8, far), (-far, 0, 0, 8), (0, -far, 8, 0), (-9, -9, -1, -1)):
            self.assertEqual(self.seen(*window), EMPTY, window)
        self.assertEqual(self.seen(far, far, -far, -far), EMPTY)

    def test_one_pixel(self):
        for i, j in ((0, 0), (7, 0), (0, 7), (7, 7), (3, 5)):
            self.assertEqual(self.seen(i, j, i + 1, j + 1), self.box(i, j, i + 1, j + 1))

    def test_pixels_outside_stay_with_their_depths(self):
        pix, depth = [k * 67108859 % 2**32 for k in range(64)], [2**24 - 1 - k for k in range(64)]
        answer = self.drawn(self.WHOLE, mode=12, pix=pix, depth=depth, window=[1, 2, 6, 4])
        for k in range(64):
            inside = 1 <= k % 8 < 6 and 2 <= k // 8 < 4
            self.assertEqual(answer[1 + k], 2**32 - 1 if inside else pix[k])
            self.assertEqual(answer[65 + k], 2**23 if inside else depth[k])

    def test_a_window_on_a_picture_that_is_not_square(self):
        corners = [spot(X, Y) for X, Y in ((-3000, -3000), (9000, -3000), (-3000, 9000))]
        for w, h in ((16, 3), (3, 16), (1, 30), (30, 1)):
            for window in ([1, 1, 100, 100], [-5, 0, 2, 2], [0, -5, 2, 2], [2, 0, 12, 1], [0, 2, 1, 12]):
                one = scene(corners, w=w, h=h, window=window)
                self.assertIsNone(first_difference(draw(**one), plain_draw(**one)), (w, h, window))


if __name__ == "__main__":
    unittest.main()
