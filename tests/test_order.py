"""What is told: one order in which all deeds that have ended could have been done at once."""

import unittest
from random import Random

from reference import fault
from stillhands.hall import Hall
from stillhands.judging import keeps
from weavings import all_rows, answers, finish, many_cases, woven


class OrderTest(unittest.TestCase):
    def check(self, hall, many):
        records, order = hall.records(), hall.order()
        self.assertIsNone(fault(records, order, many))
        self.assertTrue(keeps(records, order, many))

    def through(self, hall, many, row, chance):
        """Weave the row in pieces, with a look at the order behind each."""
        at = 0
        while at < len(row):
            piece = chance.randrange(1, len(row) + 1)
            hall.weave(row[at:at + piece])
            at += piece
            self.check(hall, many)

    def test_nothing_done(self):
        for many in (1, 2, 3, 4):
            self.assertEqual(Hall([[("one",)]] * many).order(), [])

    def test_short_plans(self):
        for label, plans, row in many_cases("short", 12, 6, 100):
            with self.subTest(label):
                self.through(Hall(plans), len(plans), row, Random(label))

    def test_plans_of_up_to_forty_deeds(self):
        for label, plans, row in many_cases("forty", 2, 40, 3000):
            with self.subTest(label):
                self.through(Hall(plans), len(plans), row, Random(label))

    def test_to_the_end(self):
        for label, plans, row in many_cases("end", 2, 40, 400):
            with self.subTest(label):
                hall = woven(plans, row)
                finish(hall, len(plans))
                self.assertEqual(len(hall.records()), sum(len(plan) for plan in plans))
                self.check(hall, len(plans))

    def test_behind_each_step(self):
        for label, plans, row in many_cases("each", 1, 4, 60):
            with self.subTest(label):
                hall = Hall(plans)
                for hand in row:
                    hall.step(hand)
                    self.check(hall, len(plans))

    def test_all_weavings_of_two_hands(self):
        for plans, counts in (
            ([[("look",)], [("set", 1), ("set", 2)]], (6, 10)),
            ([[("set", 1), ("look",)], [("set", 2)]], (9, 6)),
            ([[("sum",)], [("add", 1), ("add", 0)]], (6, 9)),
            ([[("top",)], [("raise", 3), ("raise", 2)]], (6, 9)),
            ([[("take",), ("take",)], [("give", 1), ("give", 2)]], (8, 6)),
            ([[("give", 1), ("take",), ("take",)], [("give", 2)]], (9, 3)),
            ([[("count",), ("one",), ("count",)], [("one",), ("count",), ("one",)]], (5, 4)),
        ):
            for row in all_rows(counts):
                hall = woven(plans, row)
                self.assertIsNone(fault(hall.records(), hall.order(), 2), row)

    def test_all_weavings_of_three_hands(self):
        for plans, counts in (
            ([[("take",), ("take",)], [("give", 1)], [("give", 2)]], (5, 4, 4)),
            ([[("count",), ("count",)], [("one",), ("one",)], [("count",), ("one",)]], (6, 2, 4)),
        ):
            for row in all_rows(counts):
                hall = woven(plans, row)
                self.assertIsNone(fault(hall.records(), hall.order(), 3), row)

    def test_asking_changes_nothing(self):
        for label, plans, row in many_cases("asked", 1, 8, 120):
            with self.subTest(label):
                asked, other = Hall(plans), woven(plans, row)
                for hand in row:
                    asked.step(hand)
                    asked.order()
                self.assertEqual(asked.order(), other.order())
                self.assertEqual(other.order(), other.order())
                self.assertEqual(asked.records(), other.records())

    def test_a_list_of_places(self):
        hall = woven([[("one",)] * 5], [0] * 5)
        self.assertEqual(hall.order(), [0, 1, 2, 3, 4])

    def test_a_deed_that_has_not_ended_has_changed_nothing(self):
        # Hand 1 stands still for ever ahead of the last step of its deed.
        look = [("count",), ("look",), ("sum",), ("top",), ("take",)]
        for many in (2, 3, 4):
            for deed in (("set", 5), ("add", 5), ("raise", 5), ("give", 5)):
                with self.subTest(many=many, deed=deed):
                    steps = 0
                    alone = Hall([[], [deed]] + [[]] * (many - 2))
                    while alone.step(1):
                        steps += 1
                    hall = Hall([look, [deed]] + [[]] * (many - 2))
                    hall.weave([1] * (steps - 1))
                    finish(hall, 1)
                    self.assertEqual(answers(hall), [0, (0,) * many, 0, 0, None])
                    self.check(hall, many)


class AnswersTest(unittest.TestCase):
    """Answers that the document leaves no choice about."""

    def told(self, plans, row, right):
        hall = woven(plans, row)
        self.assertEqual([record[4] for record in hall.records() if record[0] == 0], right)
        self.assertIsNone(fault(hall.records(), hall.order(), len(plans)))

    def test_deeds_that_ended_ahead_are_seen(self):
        look = [("count",), ("look",), ("sum",), ("top",), ("take",), ("take",)]
        plans = [look, [("one",), ("set", 3), ("add", 3), ("raise", 3), ("give", 3)],
                 [("one",), ("set", 4), ("add", 4), ("raise", 4), ("give", 4)]]
        self.told(plans, [1] * 80 + [2] * 80 + [0] * 80, [2, (0, 3, 4), 7, 4, 3, 4])
        self.told(plans, [2] * 80 + [1] * 80 + [0] * 80, [2, (0, 3, 4), 7, 4, 4, 3])

    def test_a_gift_missed_by_the_first_reading(self):
        # Hand 1's gift is given behind the taking of its box, and hand 2's behind that.
        plans = [[("take",), ("take",), ("take",)], [("give", 1)], [("give", 2)]]
        for ahead in (2, 3):
            self.told(plans, [0] * ahead + [1] * 9 + [2] * 9 + [0] * 20,
                      [1, 2, None] if ahead == 2 else [None, 1, 2])

    def test_gifts_missed_by_the_second_reading(self):
        plans = [[("take",)] * 4, [("give", 1), ("give", 3)], [("give", 2)]]
        self.told(plans, [2] * 9 + [0] * 5 + [1] * 9 + [0] * 20, [2, 1, 3, None])

    def test_alike_stamps(self):
        # Both hands take all boxes ahead of both puts.
        plans = [[("take",)] * 2, [("give", 1)], [("give", 2)]]
        for row in ([1] * 3 + [2] * 3 + [1, 2], [1] * 3 + [2] * 3 + [2, 1]):
            hall = woven(plans, row + [0] * 20)
            self.assertEqual(sorted(answers(hall)[2:]), [1, 2])
            self.assertIsNone(fault(hall.records(), hall.order(), 3))

    def test_a_give_underway_while_none_is_told(self):
        plans = [[("take",), ("take",)], [("give", 1)]]
        self.told(plans, [1, 1] + [0] * 2 + [1] + [0] * 9, [None, 1])

    def test_a_view_from_ahead_of_a_look_is_not_told(self):
        # Hand 1's first put behind the look's beginning has a view from ahead of it,
        # without hand 2's cell; only the second put's view may be told.
        for many in (3, 4):
            for stop in range(1, many * 2 + 1):
                plans = [[("look",)], [("set", k) for k in range(1, 30)], [("set", 7)]] + [[]] * (many - 3)
                hall = Hall(plans)
                hall.weave([1] * stop + [2] * 30)
                for _ in range(many + 1):
                    hall.weave([0] * many)
                    hall.step(1)
                    while hall.steps_of(1):
                        hall.step(1)
                look = [record for record in hall.records() if record[0] == 0][0]
                self.assertEqual(look[4][2], 7)
                self.assertIsNone(fault(hall.records(), hall.order(), many))


class GiftsTest(unittest.TestCase):
    def plans(self, chance, many):
        plans = [[("give", hand * 100 + k) for k in range(chance.randrange(41))] for hand in range(many)]
        plans[0] = plans[0][:chance.randrange(20)]
        plans[0] = plans[0] + [("take",)] * (40 - len(plans[0]))
        chance.shuffle(plans[0])
        return plans

    def check(self, hall):
        given = {record[1][1]: record[3] for record in hall.records() if record[1][0] == "give"}
        told = [record for record in hall.records() if record[1] == ("take",) and record[4] is not None]
        for record in told:
            self.assertIn(record[4], given)
            self.assertLess(given[record[4]], record[3])
        self.assertEqual(len({record[4] for record in told}), len(told))
        return len(told)

    def test_gifts_are_told_once_each(self):
        told = 0
        for label, plans, row in many_cases("gifts", 3, 2, 900):
            chance = Random(label)
            plans = self.plans(chance, len(plans))
            with self.subTest(label):
                hall = Hall(plans)
                for at in range(0, len(row), 300):
                    hall.weave(row[at:at + 300])
                    told += self.check(hall)
                    self.assertIsNone(fault(hall.records(), hall.order(), len(plans)))
        self.assertGreater(told, 1000)

    def test_gifts_that_are_alike(self):
        for label, plans, row in many_cases("alike", 1, 2, 900):
            many = len(plans)
            plans = [[("take",)] * 40] + [[("give", 5)] * 20 for _ in range(many - 1)]
            with self.subTest(label):
                hall = woven(plans, row)
                given = 0
                for record in hall.records():
                    if record[1] == ("give", 5):
                        given += 1
                    elif record[4] is not None:
                        self.assertEqual(record[4], 5)
                        given -= 1
                    self.assertGreaterEqual(given, 0)

    def test_all_gifts_are_told_in_the_end(self):
        for many in (2, 3, 4):
            plans = [[("take",)] * 40] + [[("give", hand * 10 + k) for k in range(12)] for hand in range(1, many)]
            for turn in range(30):
                chance = Random(f"all gifts {many} {turn}")
                hall = woven(plans, [chance.randrange(1, many) for _ in range(400)])
                finish(hall, many)
                hall.weave([0] * 400)
                told = [answer for answer in answers(hall) if answer is not None]
                self.assertEqual(sorted(told), sorted(deed[1] for plan in plans[1:] for deed in plan))


if __name__ == "__main__":
    unittest.main()
