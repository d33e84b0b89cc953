import unittest
from random import Random

from reference import Things
from stillhands.plain import Plain
from weavings import KINDS, any_deed


class PlainTest(unittest.TestCase):
    def told(self, plain, hand, deed, answer):
        found = plain.done(hand, deed)
        self.assertEqual(found, answer)
        self.assertIs(type(found), type(answer))

    def test_all_begins_at_zero(self):
        for many in (1, 2, 3, 4):
            for hand in range(many):
                with self.subTest(many=many, hand=hand):
                    plain = Plain(many)
                    self.told(plain, hand, ("count",), 0)
                    self.told(plain, hand, ("look",), (0,) * many)
                    self.told(plain, hand, ("sum",), 0)
                    self.told(plain, hand, ("top",), 0)
                    self.told(plain, 0, ("take",), None)

    def test_what_tells_nothing_answers_none(self):
        plain = Plain(3)
        for hand in range(3):
            for deed in (("one",), ("set", 5), ("add", 5), ("raise", 5), ("give", 5)):
                self.told(plain, hand, deed, None)

    def test_counter(self):
        plain = Plain(2)
        for many in range(1, 50):
            plain.done(many % 2, ("one",))
            self.told(plain, 0, ("count",), many)
            self.told(plain, 1, ("count",), many)

    def test_picture(self):
        plain = Plain(4)
        plain.done(2, ("set", 7))
        self.told(plain, 0, ("look",), (0, 0, 7, 0))
        plain.done(0, ("set", 999))
        plain.done(3, ("set", 1))
        self.told(plain, 2, ("look",), (999, 0, 7, 1))
        plain.done(2, ("set", 0))
        plain.done(1, ("set", 4))
        self.told(plain, 1, ("look",), (999, 4, 0, 1))

    def test_picture_of_one_hand(self):
        plain = Plain(1)
        plain.done(0, ("set", 8))
        self.told(plain, 0, ("look",), (8,))

    def test_told_cells_stay_what_they_were(self):
        plain = Plain(2)
        first = plain.done(0, ("look",))
        plain.done(0, ("set", 3))
        self.assertEqual(first, (0, 0))

    def test_sums(self):
        plain = Plain(3)
        total = 0
        for k in range(120):
            plain.done(k % 3, ("add", k * 8))
            total += k * 8
            self.told(plain, (k + 1) % 3, ("sum",), total)
        plain.done(0, ("add", 0))
        self.told(plain, 0, ("sum",), total)

    def test_tops(self):
        plain = Plain(2)
        for number, top in ((5, 5), (3, 5), (5, 5), (6, 6), (0, 6), (999, 999), (998, 999)):
            plain.done(number % 2, ("raise", number))
            self.told(plain, 0, ("top",), top)
            self.told(plain, 1, ("top",), top)

    def test_line(self):
        plain = Plain(3)
        for hand, gift in ((2, 9), (0, 0), (1, 9), (1, 5)):
            plain.done(hand, ("give", gift))
        self.told(plain, 0, ("take",), 9)
        self.told(plain, 0, ("take",), 0)
        plain.done(0, ("give", 1))
        for gift in (9, 5, 1, None, None):
            self.told(plain, 0, ("take",), gift)
        plain.done(2, ("give", 3))
        self.told(plain, 0, ("take",), 3)
        self.told(plain, 0, ("take",), None)

    def test_a_gift_that_is_zero_is_no_empty_line(self):
        plain = Plain(1)
        plain.done(0, ("give", 0))
        self.told(plain, 0, ("take",), 0)
        self.told(plain, 0, ("take",), None)

    def test_no_thing_changes_another(self):
        for deed, right in (
            (("one",), (1, (0, 0), 0, 0, None)),
            (("set", 6), (0, (0, 6), 0, 0, None)),
            (("add", 6), (0, (0, 0), 6, 0, None)),
            (("raise", 6), (0, (0, 0), 0, 6, None)),
            (("give", 6), (0, (0, 0), 0, 0, 6)),
        ):
            with self.subTest(deed=deed):
                plain = Plain(2)
                plain.done(1, deed)
                told = tuple(plain.done(0, (word,)) for word in ("count", "look", "sum", "top", "take"))
                self.assertEqual(told, right)

    def test_two_side_by_side(self):
        one, other = Plain(2), Plain(2)
        for deed in (("one",), ("set", 6), ("add", 6), ("raise", 6), ("give", 6)):
            one.done(1, deed)
        for word, answer in (("count", 0), ("look", (0, 0)), ("sum", 0), ("top", 0), ("take", None)):
            self.told(other, 0, (word,), answer)
        other.done(0, ("set", 3))
        other.done(0, ("give", 4))
        for word, answer in (("count", 1), ("look", (0, 6)), ("sum", 6), ("top", 6), ("take", 6), ("take", None)):
            self.told(one, 0, (word,), answer)

    def test_many_deeds_of_one_to_four_hands(self):
        for many in (1, 2, 3, 4):
            for turn in range(20):
                chance = Random(f"plain {many} {turn}")
                plain, things = Plain(many), Things(many)
                for _ in range(160):
                    hand = chance.randrange(many)
                    deed = any_deed(chance, KINDS["all"], hand, (0, 1, 2, 500, 999))
                    self.told(plain, hand, deed, things.done(hand, deed))


if __name__ == "__main__":
    unittest.main()
