"""Promise 2: what becomes of a triangle's pixel: depth, colours, the pattern, mixed."""

import itertools
import unittest
from fractions import Fraction

from plain_drawing import FAR, WHITE, corner, first_difference, plain_draw, scene, spot
from solidpicture.drawing import draw

OLD = 0x12345678


def product(x, y):
    """The whole number nearest to x y / 255 (never just between two, as 255 is odd)."""
    return round(Fraction(x * y, 255))


def pixel(red, green, blue, cover):
    return cover << 24 | red << 16 | green << 8 | blue


def dots(looks, places=((8, 0), (24, 16), (-8, 16)), w=(65536, 65536, 65536)):
    """Three corners round the one pixel of a picture, in the weights 2, 1, 1 if no places are told."""
    return [spot(X, Y, 1, w=own_w, **look) for (X, Y), own_w, look in zip(places, w, looks)]


class PixelCase(unittest.TestCase):
    def drawn(self, corners, w=1, h=1, **more):
        one = scene(corners, w=w, h=h, **more)
        answer = draw(**one)
        self.assertIsNone(first_difference(answer, plain_draw(**one)))
        return answer

    def one_pixel(self, *looks, **more):
        """The pixel and the depth of a picture of one pixel, with three looks or one for all corners."""
        three = looks * 3 if len(looks) == 1 else looks
        return self.drawn(dots(three), **more)[1:]


class Depth(PixelCase):
    # A z of 1 is 128 of the depth.
    HERE = 2**23 + 128 * 1000
    NEW = pixel(255, 255, 255, 255)

    def seen(self, mode, there):
        return self.one_pixel({"z": 1000}, mode=mode, pix=[OLD], depth=[there])

    def test_asked(self):
        for mode in (4, 5, 4 + 16, 4 + 8):
            kept = mode & 8 > 0
            for there in (0, 1, self.HERE - 1):
                self.assertEqual(self.seen(mode, there), [OLD, there])
            for there in (self.HERE, self.HERE + 1, FAR):
                self.assertEqual(self.seen(mode, there), [self.NEW, self.HERE if kept else there])

    def test_not_asked(self):
        for mode in (0, 1, 16):
            for there in (0, self.HERE - 1, self.HERE, self.HERE + 1, FAR):
                self.assertEqual(self.seen(mode, there), [self.NEW, there])
                self.assertEqual(self.seen(mode + 8, there), [self.NEW, self.HERE])

    def test_refused_leaves_the_color_when_mixed(self):
        half = {"z": 1000, "cover": 32768}
        self.assertEqual(self.one_pixel(half, mode=44, pix=[OLD], depth=[self.HERE - 1]), [OLD, self.HERE - 1])
        drawn = self.one_pixel(half, mode=44, pix=[OLD], depth=[self.HERE])
        self.assertNotEqual(drawn[0], OLD)
        self.assertEqual(drawn[1], self.HERE)

    def test_a_cover_of_nothing_still_keeps_its_depth(self):
        clear = {"z": 1000, "cover": 0}
        self.assertEqual(self.one_pixel(clear, mode=44, pix=[OLD], depth=[FAR]), [OLD, self.HERE])

    def test_weights(self):
        # 2 times 100, 1 times -50 and 1 times 7 are 157, a quarter of it, times 128.
        looks = ({"z": 100}, {"z": -50}, {"z": 7})
        self.assertEqual(self.one_pixel(*looks, mode=8)[1], 2**23 + 157 * 32)
        looks = ({"z": 7}, {"z": 100}, {"z": -50})
        self.assertEqual(self.one_pixel(*looks, mode=8)[1], 2**23 + 64 * 32)
        looks = ({"z": -50}, {"z": 7}, {"z": 100})
        self.assertEqual(self.one_pixel(*looks, mode=8)[1], 2**23 + 7 * 32)

    def test_depth_is_not_weighted_by_q(self):
        # Each w another, but z goes with it: 2^23 more or less an eighth.
        corners = dots(({"z": 8192}, {"z": 4096}, {"z": -16384}), w=(65536, 32768, 131072))
        # 2 and 1 eighths up, 1 down: the quarter of two eighths.
        self.assertEqual(self.drawn(corners, mode=8)[2], 2**23 + 2**19)

    def test_depths_go_towards_below(self):
        # Thirds: the weights are 288 each.
        places = ((8, -4), (32, 14), (-16, 14))
        for z, depth in (((0, 0, 1), 42), ((0, 0, 2), 85), ((0, 0, -1), -43), ((0, 0, -2), -86), ((1, 1, 1), 128)):
            looks = [{"z": number} for number in z]
            self.assertEqual(self.drawn(dots(looks, places), mode=8)[2], 2**23 + depth, z)

    def test_over_many_pixels(self):
        corners = [spot(-10, 3, z=60000), spot(140, 20, z=-65536), spot(30, 130, z=500)]
        there = [2**18 * (k % 64) for k in range(64)]
        for mode in (0, 4, 8, 12):
            self.drawn(corners, w=8, h=8, mode=mode, depth=there, pix=[OLD] * 64)


class Colors(PixelCase):
    def test_each_number_has_its_place(self):
        look = {"red": 0x1234, "green": 0x5678, "blue": 0x9ABC, "cover": 0xDEF0}
        self.assertEqual(self.one_pixel(look)[0], 0xDE12569A)

    def test_eight_of_sixteen_bits(self):
        for number, byte in ((0, 0), (1, 0), (255, 0), (256, 1), (511, 1), (32768, 128), (65279, 254), (65280, 255),
                             (65535, 255)):
            for place, name in enumerate(("blue", "green", "red", "cover")):
                look = {"red": 0, "green": 0, "blue": 0, "cover": 0, name: number}
                self.assertEqual(self.one_pixel(look)[0], byte << 8 * place, (name, number))

    def test_nothing_and_all(self):
        for numbers in itertools.product((0, 65535), repeat=4):
            look = dict(zip(("red", "green", "blue", "cover"), numbers))
            self.assertEqual(self.one_pixel(look, pix=[OLD])[0], pixel(*[number >> 8 for number in numbers]))

    def test_weights(self):
        black = {"green": 0, "blue": 0}
        looks = ({"red": 65535, **black}, {"red": 0, **black}, {"red": 0, **black})
        # A half of 65535 is 32767, a quarter 16383.
        for turned, byte in ((0, 127), (1, 63), (2, 63)):
            three = looks[-turned:] + looks[:-turned]
            self.assertEqual(self.one_pixel(*three)[0], pixel(byte, 0, 0, 255), turned)

    def test_all_looks_towards_below(self):
        # A quarter of 4 times 256 less 1 is 255 and some.
        for name, place in (("blue", 0), ("green", 8), ("red", 16), ("cover", 24)):
            zero = {"red": 0, "green": 0, "blue": 0, "cover": 0}
            looks = ({**zero, name: 256}, {**zero, name: 256}, {**zero, name: 255})
            self.assertEqual(self.one_pixel(*looks)[0], 0)
            looks = ({**zero, name: 256}, {**zero, name: 257}, {**zero, name: 255})
            self.assertEqual(self.one_pixel(*looks)[0], 1 << place)

    def test_unlike_q(self):
        # Q of 4096, 8192, 2048 and weights of 2, 1, 1: they count 4, 4, 1 of 9.
        looks = (
            {"red": 65535, "green": 0, "blue": 0, "cover": 9000},
            {"red": 0, "green": 65535, "blue": 0, "cover": 18000},
            {"red": 0, "green": 0, "blue": 65535, "cover": 27000},
        )
        answer = self.drawn(dots(looks, w=(65536, 32768, 131072)))
        # 262140 / 9 is 29126, 65535 / 9 is 7281, 135000 / 9 is 15000.
        self.assertEqual(answer[1], pixel(113, 113, 28, 58))

    def test_unlike_q_for_u_and_v(self):
        pattern = list(range(4096))
        looks = ({"u": 9 * 1024, "v": 0}, {"u": 0, "v": 9 * 1024}, {"u": 0, "v": 0})
        answer = self.drawn(dots(looks, w=(65536, 32768, 131072)), mode=16, pattern=pattern)
        self.assertEqual(answer[1], 4 * 64 + 4)
        looks = ({"u": 0, "v": 0}, {"u": 0, "v": 0}, {"u": 9 * 1024, "v": -9 * 1024})
        answer = self.drawn(dots(looks, w=(65536, 32768, 131072)), mode=16, pattern=pattern)
        self.assertEqual(answer[1], 63 * 64 + 1)

    def test_q_is_a_whole_number(self):
        # 2^28 / 9000 is 29826 and some.
        for w in ((9000, 9008, 9016), (4096, 2**23, 70000), (10000, 2**20 + 8, 2**23 + 8)):
            corners = [corner(0, w[0], w=w[0], red=65535), corner(w[1], -w[1], w=w[1], red=0), corner(-w[2], -w[2], w=w[2])]
            for three in itertools.permutations(corners):
                self.drawn(three, w=9, h=7, mode=8)

    def test_put_as_it_is(self):
        for old in (0, OLD, WHITE):
            for cover in (0, 256, 65535):
                look = {"red": 256, "green": 512, "blue": 768, "cover": cover}
                self.assertEqual(self.one_pixel(look, pix=[old])[0], pixel(1, 2, 3, cover >> 8))


class Pattern(PixelCase):
    PATTERN = [(k * 1048573 + 77) % 2**32 for k in range(4096)]

    def test_where_u_and_v_point(self):
        places = (
            (0, 0), (1, 0), (1023, 0), (1024, 1), (2047, 1), (64512, 63), (65535, 63), (65536, 0), (66559, 0),
            (66560, 1), (131072 + 5 * 1024, 5), (2**24 - 1, 63), (-1, 63), (-1024, 63), (-1025, 62), (-65536, 0),
            (-65537, 63), (-66561, 62), (1 - 2**24, 0),
        )
        for (u, column), (v, row) in itertools.product(places, places):
            answer = self.one_pixel({"u": u, "v": v}, mode=16, pattern=self.PATTERN)
            self.assertEqual(answer[0], self.PATTERN[64 * row + column], (u, v))

    def test_u_and_v_go_towards_below(self):
        # Quarters of a quotient just below and at the next pixel of the pattern.
        for numbers, place in (((1024, 1024, 1023), 0), ((1024, 1023, 1025), 1), ((0, 0, -1), 63), ((0, -1, 1), 0)):
            looks = [{"u": number} for number in numbers]
            self.assertEqual(self.one_pixel(*looks, mode=16, pattern=self.PATTERN)[0], self.PATTERN[place])
            looks = [{"v": number} for number in numbers]
            self.assertEqual(self.one_pixel(*looks, mode=16, pattern=self.PATTERN)[0], self.PATTERN[64 * place])

    def test_without_the_pattern_nothing_of_it_counts(self):
        for mode in (0, 4, 8, 12):
            self.assertEqual(self.one_pixel({"u": 5000, "v": 9000}, mode=mode, pattern=self.PATTERN)[0], WHITE)

    def test_all_products(self):
        # Row by row the 256 numbers y, for each x.
        pattern = [0x01010101 * (16 * (k // 64 % 16) + k % 16) for k in range(4096)]
        for x in range(256):
            look = {name: 256 * x + 255 for name in ("red", "green", "blue", "cover")}
            corners = [
                spot(0, 0, 16, u=0, v=0, **look),
                spot(512, 0, 16, u=32768, v=0, **look),
                spot(0, 512, 16, u=0, v=32768, **look),
            ]
            answer = draw(**scene(corners, w=16, h=16, mode=16, pattern=pattern))
            expected = [0x01010101 * product(x, y) for y in range(256)]
            self.assertIsNone(first_difference(answer[1:257], expected), x)

    def test_each_number_with_its_own(self):
        look = {"red": 200 << 8, "green": 100 << 8, "blue": 50 << 8, "cover": 25 << 8}
        answer = self.one_pixel(look, mode=16, pattern=[pixel(10, 60, 110, 160)] * 4096)
        self.assertEqual(answer[0], pixel(8, 24, 22, 16))

    def test_over_many_pixels(self):
        corners = [
            spot(-10, 3, w=32768, u=-70000, v=500), spot(140, 20, u=200000, v=-90000, red=9000, cover=100),
            spot(30, 130, w=131072, u=9, v=66000, blue=0),
        ]
        for three in itertools.permutations(corners):
            for mode in (16, 28, 48, 60):
                self.drawn(three, w=8, h=8, mode=mode, pattern=self.PATTERN, pix=[OLD] * 64)


class Mixed(PixelCase):
    def test_covers(self):
        look = {"red": 200 << 8, "green": 100 << 8, "blue": 0}
        for cover, expected in (
            (0, OLD),
            (255, pixel(200, 100, 0, 255)),
            # 127.5 does not come: 128 of the new, 127 of the old (52, 86, 120 and 18).
            (128, pixel(100 + 26, 50 + 43, 0 + 60, 128 + 9)),
            (1, pixel(1 + 52, 0 + 86, 0 + 120, 1 + 18)),
            (254, pixel(199 + 0, 100 + 0, 0 + 0, 254 + 0)),
        ):
            answer = self.one_pixel({"cover": cover << 8, **look}, mode=32, pix=[OLD])
            self.assertEqual(answer[0], expected, cover)

    def test_many_numbers(self):
        # Every old number from 0 to 255 stands in the picture once.
        old = [0x01010101 * y for y in range(256)]
        for new, cover in itertools.product((0, 1, 77, 127, 128, 254, 255), (0, 1, 2, 50, 127, 128, 200, 253, 254, 255)):
            look = {"red": new << 8, "green": (255 - new) << 8, "blue": new << 8, "cover": cover << 8}
            corners = [spot(0, 0, 16, **look), spot(512, 0, 16, **look), spot(0, 512, 16, **look)]
            answer = draw(**scene(corners, w=16, h=16, mode=32, pix=old))
            rest = 255 - cover
            expected = []
            for y in range(256):
                color = [product(x, cover) + product(y, rest) for x in (new, 255 - new, new)]
                expected.append(pixel(*[min(number, 255) for number in color + [cover + product(y, rest)]]))
            self.assertIsNone(first_difference(answer[1:257], expected), (new, cover))

    def test_never_above_255(self):
        for cover in range(256):
            answer = self.one_pixel({"cover": cover << 8}, mode=32, pix=[WHITE])
            self.assertEqual(answer[0], WHITE, cover)

    def test_the_cover_is_the_pattern_s_too(self):
        # A cover of 255 times 128: half of the pattern's red over half of the old.
        answer = self.one_pixel({}, mode=48, pix=[OLD], pattern=[pixel(200, 100, 0, 128)] * 4096)
        self.assertEqual(answer[0], pixel(126, 93, 60, 137))

    def test_without_mixing_the_old_pixel_does_not_count(self):
        for old in (0, OLD, WHITE):
            answer = self.one_pixel({"cover": 128 << 8}, mode=16, pix=[old])
            self.assertEqual(answer[0], pixel(255, 255, 255, 128))


if __name__ == "__main__":
    unittest.main()
