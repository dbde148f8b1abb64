"""Promise 3: what faces_of refuses, and what it must still take."""

import unittest

from plain_drawing import changed, plain_faces, solid, spot, with_number
from solidpicture.drawing import faces_of

BEYOND = 2**24
LOWEST, HIGHEST = -2**31, 2**31 - 1
WRONG_SIDES = (0, -1, -8, 1025, 65536, HIGHEST, LOWEST)
RIGHT_SIDES = (1, 2, 8, 1023, 1024)
WRONG_CORNER_COUNTS = (-1, -3, 4097, 65536, HIGHEST, LOWEST)
WRONG_FACE_COUNTS = (-1, -2, 8193, 65536, HIGHEST, LOWEST)
WRONG_PLACES = (BEYOND, -BEYOND, BEYOND + 1, -BEYOND - 1, HIGHEST, LOWEST)
RIGHT_PLACES = (BEYOND - 1, 1 - BEYOND)
WRONG_COLORS = (-1, 65536, BEYOND - 1, 1 - BEYOND, HIGHEST, LOWEST)
RIGHT_COLORS = (0, 1, 65534, 65535)
TRIANGLE = (spot(0, 0), spot(128, 0), spot(0, 128))


def whole_solid():
    """A face that counts, and a corner that no face names."""
    return solid(TRIANGLE + (spot(128, 128),))


def faceless_solid():
    return solid(TRIANGLE, index=[])


class RefusalCase(unittest.TestCase):
    def check_answer(self, one, number, label):
        answer = faces_of(**one)
        self.assertIs(type(answer), list, label)
        self.assertEqual(answer, [number], label)
        self.assertIs(type(answer[0]), int, label)
        self.assertEqual(plain_faces(**one), [number], label)

    def check_taken(self, one, label):
        answer = faces_of(**one)
        self.assertEqual(len(answer), 1, label)
        self.assertGreaterEqual(answer[0], 0, label)
        self.assertEqual(answer, plain_faces(**one), label)

    def check_number(self, one, name, place, wrong, right):
        for number in wrong:
            self.check_answer(with_number(one, name, place, number), -2, (name, place, number))
        for number in right:
            self.check_taken(with_number(one, name, place, number), (name, place, number))


class Sizes(RefusalCase):
    def test_sides(self):
        for one in (whole_solid(), faceless_solid(), solid(index=[])):
            for wrong in WRONG_SIDES:
                for right in RIGHT_SIDES:
                    self.check_answer(changed(one, w=wrong, h=right), -1, (wrong, right))
                    self.check_answer(changed(one, w=right, h=wrong), -1, (right, wrong))
                for other in WRONG_SIDES:
                    self.check_answer(changed(one, w=wrong, h=other), -1, (wrong, other))

    def test_sides_that_are_taken(self):
        # No picture is handed in, so that both sides may be as long as they may be at all.
        for w in RIGHT_SIDES:
            for h in RIGHT_SIDES:
                self.check_answer(changed(whole_solid(), w=w, h=h), 1, (w, h))
                self.check_answer(changed(faceless_solid(), w=w, h=h), 0, (w, h))

    def test_corner_count(self):
        for n in WRONG_CORNER_COUNTS:
            self.check_answer(solid(index=[], n=n), -1, n)
            self.check_answer(solid(index=[0, 0, 0], n=n), -1, n)
            self.check_answer(solid(index=[0, 1, 2, 65535, 65535, 65535], n=n), -1, n)

    def test_corner_counts_that_are_taken(self):
        self.check_answer(solid(index=[]), 0, 0)
        self.check_answer(solid(TRIANGLE[:1], index=[0, 0, 0]), 0, 1)
        self.check_answer(solid(TRIANGLE * 1000, index=[2997, 1, 2999]), 1, 3000)
        # More numbers than the interface hands in: the words' own bound for n.
        self.check_answer(solid(TRIANGLE * 1365 + TRIANGLE[:1], index=[4095, 1, 2]), 1, 4096)

    def test_face_count(self):
        for faces in WRONG_FACE_COUNTS:
            self.check_answer(changed(whole_solid(), faces=faces, index=[]), -1, faces)
            self.check_answer(solid(index=[], faces=faces), -1, faces)

    def test_face_counts_that_are_taken(self):
        self.check_answer(faceless_solid(), 0, 0)
        self.check_answer(solid(TRIANGLE, index=[0, 1, 2]), 1, 1)
        self.check_answer(solid(TRIANGLE, index=[0, 1, 2] * 8192), 8192, 8192)
        self.check_answer(solid(TRIANGLE, index=[0, 1, 1] * 8191 + [0, 1, 2]), 1, 8192)


class Numbers(RefusalCase):
    def test_matrix(self):
        for one in (whole_solid(), faceless_solid(), solid(index=[])):
            for place in range(16):
                self.check_number(one, "m", place, WRONG_PLACES, RIGHT_PLACES)

    def test_places_and_pattern_places_of_corners(self):
        # The last corner of the first solid, and all of the second, are named by no face.
        for one in (whole_solid(), faceless_solid()):
            for which in range(one["n"]):
                for place in (0, 1, 2, 3, 8, 9):
                    self.check_number(one, "corners", 10 * which + place, WRONG_PLACES, RIGHT_PLACES)
                    self.check_number(one, "corners", 10 * which + place, (), (-1, -65536, 65536, 70000))

    def test_colors_and_cover_of_corners(self):
        for one in (whole_solid(), faceless_solid()):
            for which in range(one["n"]):
                for place in (4, 5, 6, 7):
                    self.check_number(one, "corners", 10 * which + place, WRONG_COLORS, RIGHT_COLORS)

    def test_the_last_of_the_most_corners(self):
        one = solid(TRIANGLE * 1000, index=[2999, 0, 1])
        for place in (0, 1, 2, 3, 8, 9):
            self.check_number(one, "corners", 29990 + place, (BEYOND, -BEYOND), RIGHT_PLACES)
        for place in (4, 5, 6, 7):
            self.check_number(one, "corners", 29990 + place, (-1, 65536), (0, 65535))

    def test_corners_of_faces_that_do_not_count(self):
        # Behind the plane, too far off, or flat: a wrong number is refused all the same.
        for x, w in ((0, 0), (BEYOND - 1, 4096), (0, 65536)):
            far = spot(0, 0)
            far[0], far[3] = x, w
            one = solid([list(far), list(far), list(far)])
            self.check_answer(one, 0, (x, w))
            for which in range(3):
                self.check_number(one, "corners", 10 * which + 2, WRONG_PLACES, RIGHT_PLACES)
                self.check_number(one, "corners", 10 * which + 7, WRONG_COLORS, RIGHT_COLORS)

    def test_index(self):
        for place in range(3):
            self.check_number(whole_solid(), "index", place, (4, 5, 4096, 65535), (0, 3))
        two = solid(TRIANGLE, index=[0, 1, 2, 2, 1, 0])
        for place in range(6):
            self.check_number(two, "index", place, (3, 4, 65535), (0, 2))

    def test_index_without_corners(self):
        for index in ([0, 0, 0], [0, 1, 2], [65535, 65535, 65535]):
            self.check_answer(solid(index=index), -2, index)

    def test_index_at_the_most_corners_and_faces(self):
        many = TRIANGLE * 1000
        self.check_answer(solid(many, index=[0, 1, 3000]), -2, 3000)
        self.check_answer(solid(many, index=[0, 1, 2999]), 1, 2999)
        self.check_answer(solid(many, index=[0, 1, 2] * 8191 + [0, 1, 3000]), -2, 8192)


class OneBeforeTheOther(RefusalCase):
    def wrong_solid(self):
        """All that is refused by -2 at once."""
        one = changed(whole_solid(), m=[BEYOND] * 16, index=[4, 4, 4])
        return with_number(with_number(one, "corners", 4, -1), "corners", 0, BEYOND)

    def test_a_wrong_size_goes_before_a_wrong_number(self):
        wrong = self.wrong_solid()
        self.check_answer(wrong, -2, "all numbers")
        for side in WRONG_SIDES:
            self.check_answer(changed(wrong, w=side), -1, side)
            self.check_answer(changed(wrong, h=side), -1, side)
        for n in WRONG_CORNER_COUNTS:
            self.check_answer(changed(wrong, n=n, corners=[]), -1, n)
        for faces in WRONG_FACE_COUNTS:
            self.check_answer(changed(wrong, faces=faces, index=[]), -1, faces)

    def test_a_wrong_size_beside_each_wrong_number_alone(self):
        numbers = [("m", place, BEYOND) for place in range(16)]
        numbers += [("corners", place, LOWEST) for place in range(40)]
        numbers += [("index", place, 4) for place in range(3)]
        for name, place, number in numbers:
            wrong = with_number(whole_solid(), name, place, number)
            self.check_answer(wrong, -2, (name, place))
            self.check_answer(changed(wrong, w=0), -1, (name, place))
            self.check_answer(changed(wrong, h=1025), -1, (name, place))
            if name != "corners":
                self.check_answer(changed(wrong, n=4097, corners=[]), -1, (name, place))
            if name != "index":
                self.check_answer(changed(wrong, faces=8193, index=[]), -1, (name, place))

    def test_all_sizes_wrong_at_once(self):
        for w, h, n, faces in ((0, 1025, -1, 8193), (LOWEST, LOWEST, LOWEST, LOWEST), (HIGHEST,) * 4):
            self.check_answer(solid(index=[], w=w, h=h, n=n, faces=faces), -1, w)
            self.check_answer(solid(index=[], w=w, h=h, n=n, faces=faces, m=[BEYOND] * 16), -1, w)

    def test_a_refusal_is_a_list_of_its_own(self):
        for one, number in ((changed(whole_solid(), w=0), -1), (with_number(whole_solid(), "m", 0, BEYOND), -2)):
            answer = faces_of(**one)
            answer[0] = 5
            answer.append(7)
            self.check_answer(one, number, number)


if __name__ == "__main__":
    unittest.main()
