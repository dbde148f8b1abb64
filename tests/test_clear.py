"""Promise 1: clear."""

import contextlib
import inspect
import io
import unittest

from solidpicture.drawing import clear

FAR = 2**24 - 1
TOP = 2**32 - 1
WRONG_SIDES = (0, -1, -2, -1024, 1025, 1026, 65536, 2147483647, -2147483648)
RIGHT_SIDES = (1, 2, 29, 1023, 1024)


def some_numbers(count, step):
    """Numbers from 0 to 2^32 - 1 that look like nothing that clear would put there."""
    return [(7 + k * step) % (TOP + 1) for k in range(count)]


def old_picture(w, h):
    return some_numbers(w * h, 2654435761), some_numbers(w * h, 40503 * 65537)


class ClearCase(unittest.TestCase):
    def check_cleared(self, w, h, color, pix, depth):
        answer = clear(w, h, color, pix, depth)
        self.assertIs(type(answer), list)
        self.assertEqual(len(answer), 1 + 2 * w * h)
        self.assertEqual(answer[0], 0)
        # Not assertEqual: its report on two long lists that differ takes minutes.
        self.assertTrue(answer[1:1 + w * h] == [color] * (w * h), "pixels")
        self.assertTrue(answer[1 + w * h:] == [FAR] * (w * h), "depths")
        self.assertEqual({type(number) for number in answer}, {int})

    def check_refused(self, w, h, color=5):
        answer = clear(w, h, color, [], [])
        self.assertIs(type(answer), list)
        self.assertEqual(len(answer), 1, (w, h, color))
        self.assertEqual(answer, [-1], (w, h, color))
        self.assertIs(type(answer[0]), int)


class OrdinaryPictures(ClearCase):
    def test_written_out(self):
        self.assertEqual(
            clear(3, 2, 4278190335, [1, 2, 3, 4, 5, 6], [9, 8, 7, 6, 5, 4]),
            [0] + [4278190335] * 6 + [16777215] * 6,
        )

    def test_sizes_and_colors(self):
        for w, h in ((2, 3), (3, 2), (7, 5), (16, 16), (100, 60), (173, 173)):
            for color in (1, 255, 0x80402010, FAR, FAR + 1):
                with self.subTest(w=w, h=h, color=color):
                    self.check_cleared(w, h, color, *old_picture(w, h))

    def test_old_picture_does_not_matter(self):
        for pixel in (0, 1, 77, FAR, TOP):
            for far in (0, 1, FAR, FAR + 1, TOP):
                with self.subTest(pixel=pixel, far=far):
                    self.check_cleared(4, 3, 77, [pixel] * 12, [far] * 12)

    def test_arguments_have_the_names_of_the_interface(self):
        self.assertEqual(list(inspect.signature(clear).parameters), ["w", "h", "color", "pix", "depth"])
        self.assertEqual(clear(w=1, h=2, color=3, pix=[4, 5], depth=[6, 7]), [0, 3, 3, FAR, FAR])


class Edges(ClearCase):
    def test_sides(self):
        for w, h in ((1, 1), (1, 2), (2, 1), (1, 1024), (1024, 1), (1023, 1), (1, 1023), (1024, 29), (29, 1024)):
            with self.subTest(w=w, h=h):
                self.check_cleared(w, h, 0xFF112233, *old_picture(w, h))

    def test_most_numbers(self):
        for w, h in ((200, 150), (150, 200), (1000, 30), (30, 1000)):
            with self.subTest(w=w, h=h):
                self.check_cleared(w, h, 12, *old_picture(w, h))

    def test_colors(self):
        for color in (0, 1, 2**31 - 1, 2**31, TOP - 1, TOP):
            for w, h in ((1, 1), (5, 4), (1024, 1), (1, 1024)):
                with self.subTest(w=w, h=h, color=color):
                    self.check_cleared(w, h, color, *old_picture(w, h))


class Refusals(ClearCase):
    # No subTest here: a clear that takes a wrong side fails at a small one, before it fills the memory at a large one.

    def test_width_alone(self):
        for w in WRONG_SIDES:
            for h in RIGHT_SIDES:
                self.check_refused(w, h)

    def test_height_alone(self):
        for h in WRONG_SIDES:
            for w in RIGHT_SIDES:
                self.check_refused(w, h)

    def test_both(self):
        for w in WRONG_SIDES:
            for h in WRONG_SIDES:
                # Smaller products first, for the same reason.
                if abs(h) <= abs(w):
                    self.check_refused(w, h)
                    self.check_refused(h, w)

    def test_whatever_the_color(self):
        for color in (0, 1, TOP):
            self.check_refused(0, 1, color)
            self.check_refused(1, 1025, color)


class NothingKept(ClearCase):
    def test_what_was_handed_in_stays(self):
        pix, depth = old_picture(6, 4)
        old_pix, old_depth = list(pix), list(depth)
        clear(6, 4, 9, pix, depth)
        self.assertEqual(pix, old_pix)
        self.assertEqual(depth, old_depth)

    def test_empty_lists_stay_empty(self):
        pix, depth = [], []
        clear(0, 4, 9, pix, depth)
        self.assertEqual((pix, depth), ([], []))

    def test_the_answer_is_a_list_of_its_own(self):
        pix, depth = old_picture(2, 2)
        old_pix, old_depth = list(pix), list(depth)
        answer = clear(2, 2, 9, pix, depth)
        for k in range(len(answer)):
            answer[k] = -5
        answer.append(-6)
        self.assertEqual((pix, depth), (old_pix, old_depth))
        self.assertEqual(clear(2, 2, 9, pix, depth), [0] + [9] * 4 + [FAR] * 4)

    def test_one_list_handed_in_twice(self):
        both = [FAR + 3, 2, 1]
        self.assertEqual(clear(3, 1, 8, both, both), [0, 8, 8, 8, FAR, FAR, FAR])
        self.assertEqual(both, [FAR + 3, 2, 1])

    def test_a_refusal_is_a_list_of_its_own(self):
        pix, depth = [], []
        answer = clear(0, 0, 9, pix, depth)
        answer.append(3)
        answer[0] = 4
        self.assertEqual((pix, depth), ([], []))
        self.assertEqual(clear(0, 0, 9, pix, depth), [-1])

    def test_a_second_call_answers_like_the_first(self):
        pix, depth = old_picture(5, 3)
        first = clear(5, 3, 21, pix, depth)
        refused = clear(5, 1025, 21, [], [])
        other = clear(3, 5, 22, pix, depth)
        second = clear(5, 3, 21, pix, depth)
        self.assertEqual(first, second)
        self.assertIsNot(first, second)
        self.assertEqual(other, [0] + [22] * 15 + [FAR] * 15)
        self.assertEqual(clear(5, 1025, 21, [], []), refused)

    def test_nothing_is_printed(self):
        out, err = io.StringIO(), io.StringIO()
        with contextlib.redirect_stdout(out), contextlib.redirect_stderr(err):
            clear(2, 1, 9, [1, 2], [3, 4])
            clear(0, 1, 9, [], [])
        self.assertEqual((out.getvalue(), err.getvalue()), ("", ""))


if __name__ == "__main__":
    unittest.main()
