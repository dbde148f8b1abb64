"""Promise 3: many inputs, counted a second time by the plain reckoning."""

import unittest

from plain_drawing import changed, corner, plain_faces, plain_refusal, scene, solid, with_number
from solidpicture.drawing import draw, faces_of

BEYOND = 2**24
SIZES = ((1, 1), (2, 3), (8, 8), (64, 48), (1, 1024), (1024, 1), (1023, 777), (1024, 1024))
EDGES = (0, 1, -1, 4095, 4096, 4097, 65535, 65536, -65536, BEYOND - 1, 1 - BEYOND)


class Numbers:
    """The same numbers in the same order at every run, with nothing in common between neighbours."""

    def __init__(self, start):
        self.state = start

    def below(self, limit):
        self.state = (self.state * 6364136223846793005 + 1442695040888963407) % 2**64
        return (self.state >> 33) % limit

    def within(self, reach):
        """From -reach to reach."""
        return self.below(2 * reach + 1) - reach

    def one_of(self, choices):
        return choices[self.below(len(choices))]


def looks(numbers):
    names = ("red", "green", "blue", "cover")
    return {**{name: numbers.below(65536) for name in names}, "u": numbers.within(99999), "v": numbers.within(99999)}


def near_corner(numbers):
    """Most are in front of the plane, and on or beside the picture."""
    w = numbers.one_of((4095, 4096, 4097, 5000, 20000, 65536, -3000, 4096 + numbers.below(90000)))
    reach = abs(w) * numbers.one_of((1, 1, 2, 9))
    return corner(numbers.within(reach), numbers.within(reach), numbers.within(reach), w, **looks(numbers))


def wild_corner(numbers):
    """Any allowed numbers, those at the edges often."""
    four = [numbers.one_of(EDGES) if numbers.below(3) == 0 else numbers.within(BEYOND - 1) for k in range(4)]
    return corner(*four, **looks(numbers))


def tiny_corner(numbers):
    """So near to the others that many faces are flat."""
    return corner(numbers.within(5) * 700, numbers.within(5) * 700, 0, 4094 + numbers.below(9), **looks(numbers))


def near_matrix(numbers):
    return [65536 * (k % 5 == 0) + numbers.within(9000) for k in range(16)]


def wild_matrix(numbers):
    return [numbers.one_of(EDGES) if numbers.below(3) == 0 else numbers.within(BEYOND - 1) for k in range(16)]


def some_solid(numbers, make_corner, make_matrix):
    n = 1 + numbers.below(12)
    faces = numbers.below(16)
    w, h = numbers.one_of(SIZES)
    m = make_matrix(numbers) if make_matrix else None
    return solid(
        [make_corner(numbers) for k in range(n)], index=[numbers.below(n) for k in range(3 * faces)], w=w, h=h, m=m
    )


class Many(unittest.TestCase):
    def check_many(self, start, make_corner, make_matrix, least_part, most_part):
        """Compare a thousand solids; of all faces as many parts of a hundred count as told."""
        numbers = Numbers(start)
        faces = counted = 0
        for k in range(1000):
            one = some_solid(numbers, make_corner, make_matrix)
            answer = faces_of(**one)
            self.assertEqual(answer, plain_faces(**one), one)
            faces += one["faces"]
            counted += answer[0]
        # Else the comparison would be of one kind of face alone.
        self.assertTrue(least_part * faces < 100 * counted < most_part * faces, (faces, counted))

    def test_near(self):
        self.check_many(1, near_corner, None, 20, 80)

    def test_near_and_moved(self):
        self.check_many(2, near_corner, near_matrix, 20, 80)

    def test_tiny(self):
        self.check_many(3, tiny_corner, None, 10, 80)

    def test_wild_and_moved(self):
        self.check_many(4, wild_corner, near_matrix, 1, 80)

    def test_wild_all_over(self):
        self.check_many(5, wild_corner, wild_matrix, 1, 80)

    def test_with_a_wrong_number(self):
        numbers = Numbers(6)
        seen = {}
        for k in range(3000):
            one = some_solid(numbers, near_corner, near_matrix)
            name = numbers.one_of(("m", "corners", "index", "w", "h"))
            number = numbers.one_of((BEYOND, -BEYOND, BEYOND - 1, 1 - BEYOND, 65535, 65536, -1, 0, 1, 1024, 1025))
            if name in ("w", "h"):
                one = changed(one, **{name: number})
            elif one[name]:
                number = abs(number) % 65536 if name == "index" else number
                one = with_number(one, name, numbers.below(len(one[name])), number)
            answer = faces_of(**one)
            self.assertEqual(answer, plain_faces(**one), one)
            seen[min(answer[0], 0)] = seen.get(min(answer[0], 0), 0) + 1
        self.assertGreater(min(seen[-1], seen[-2], seen[0]), 200, seen)

    def test_refused_as_draw_refuses(self):
        # With a right mode, window and depth both calls refuse the same.
        numbers = Numbers(7)
        for k in range(200):
            corners = [near_corner(numbers) for which in range(3)]
            numbers.one_of(corners)[numbers.below(10)] = numbers.one_of(EDGES + (BEYOND, -BEYOND))
            index = [numbers.below(3 + (k % 4 == 0)) for which in range(6)]
            drawn = draw(**scene(corners, index=index))
            counted = faces_of(**solid(corners, index=index))
            self.assertEqual(min(counted[0], 0), drawn[0])
            self.assertEqual(plain_refusal(**solid(corners, index=index)), drawn[0])


class BesideDraw(unittest.TestCase):
    def test_what_is_drawn_is_counted(self):
        numbers = Numbers(8)
        painted = 0
        for k in range(600):
            corners = [near_corner(numbers) for which in range(3)]
            m = near_matrix(numbers)
            answer = draw(**scene(corners, m=m, mode=8, depth=[BEYOND - 1] * 64, pix=[7] * 64))
            if answer[1:65] != [7] * 64:
                painted += 1
                self.assertEqual(faces_of(**solid(corners, m=m)), [1], corners)
        self.assertGreater(painted, 100)


if __name__ == "__main__":
    unittest.main()
