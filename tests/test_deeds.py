import unittest

from reference import limit
from stillhands.deeds import most_steps, need_deed
from stillhands.errors import NoDeed

PLAIN = ("one", "count", "look", "sum", "top", "take")
NUMBERED = ("set", "add", "raise", "give")
# The last ones are too long for Python to write out in figures.
FAR_OFF = (-1, -2, -999, 1000, 1001, 9999, 10 ** 30, -(10 ** 30), 2 ** 64, 10 ** 6000, -(10 ** 6000))
NO_WORDS = ("", "One", "ONE", "ones", " one", "one ", "on", "cnt", "counts", "tops", "taken", "gives", "put", "None",
            "hand", "0", "on\u00e9", "a" * 10000)


class NeedDeedTest(unittest.TestCase):
    def let_by(self, deed, hand):
        with self.subTest(deed=deed, hand=hand):
            self.assertIsNone(need_deed(deed, hand))

    def refused(self, deed, hand=0):
        with self.subTest(word=deed[:1], hand=hand, many=len(deed)):
            with self.assertRaises(NoDeed):
                need_deed(deed, hand)

    def test_deeds_without_a_number(self):
        for word in PLAIN:
            self.let_by((word,), 0)
            if word != "take":
                for hand in (1, 2, 3):
                    self.let_by((word,), hand)

    def test_deeds_with_a_number(self):
        for word in NUMBERED:
            for number in (0, 1, 2, 500, 998, 999):
                for hand in (0, 1, 2, 3):
                    self.let_by((word, number), hand)

    def test_numbers_outside(self):
        for word in NUMBERED:
            for number in FAR_OFF:
                for hand in (0, 1, 3):
                    self.refused((word, number), hand)

    def test_a_number_left_out(self):
        for word in NUMBERED:
            self.refused((word,))
            self.refused((word,), 2)

    def test_a_number_too_much(self):
        for word in NUMBERED:
            self.refused((word, 1, 2))
            self.refused((word, 0, 0))
            self.refused((word, 5, -1))
        for word in PLAIN:
            self.refused((word, 0))
            self.refused((word, 5))
            self.refused((word, -1))
            self.refused((word, 1, 2))

    def test_words_that_there_are_not(self):
        for word in NO_WORDS:
            self.refused((word,))
            self.refused((word, 5))
            self.refused((word, 5, 6))

    def test_an_empty_tuple(self):
        self.refused(())
        self.refused((), 3)

    def test_hand_0_alone_takes(self):
        for hand in (1, 2, 3, 4, 100, -1, 10 ** 6000):
            with self.subTest(bits=hand.bit_length()):
                with self.assertRaises(NoDeed):
                    need_deed(("take",), hand)


class MostStepsTest(unittest.TestCase):
    def test_as_the_document_tells(self):
        for word in PLAIN + NUMBERED:
            deed = (word, 7) if word in NUMBERED else (word,)
            for many in (1, 2, 3, 4):
                with self.subTest(word=word, many=many):
                    self.assertEqual(most_steps(deed, many), limit(deed, many))

    def test_somewhat_more_hands(self):
        self.assertEqual([most_steps((word,), 5) for word in PLAIN], [1, 5, 30, 30, 30, 10])
        self.assertEqual([most_steps((word, 0), 5) for word in NUMBERED], [31, 31, 31, 6])


if __name__ == "__main__":
    unittest.main()
