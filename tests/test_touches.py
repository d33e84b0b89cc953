"""Whose boxes are touched, by how many steps, and what steps hang on."""

import unittest

from reference import limit
from stillhands.boxes import Boxes
from stillhands.hall import Hall
from weavings import all_rows, finish, many_cases, woven

THINGS = {"one": 0, "count": 0, "set": 1, "look": 1, "add": 2, "sum": 2, "raise": 3, "top": 3, "give": 4, "take": 4}
TELLING = ("count", "look", "sum", "top", "take")
DEEDS = (("one",), ("count",), ("set", 5), ("look",), ("add", 5), ("sum",), ("raise", 5), ("top",), ("give", 5),
         ("take",))


def deeds_of_steps(hall, plans):
    """The deed that each step belongs to, found from the records and the plans."""
    ended = [0] * len(plans)
    ends = {record[3]: record for record in hall.records()}
    deeds = []
    for now, touch in enumerate(hall.touches()):
        deeds.append(plans[touch[0]][ended[touch[0]]])
        if now in ends:
            ended[touch[0]] += 1
    return deeds


def steps_of_deeds(hall):
    """(deed, how many steps of its hand) for each deed that has ended."""
    touches = hall.touches()
    for hand, deed, begin, end, _ in hall.records():
        yield deed, len([touch for touch in touches[begin:end + 1] if touch[0] == hand])


class TouchesTest(unittest.TestCase):
    def check(self, hall, plans, row):
        many, touches = len(plans), hall.touches()
        held = [0] * (5 * many)
        for touch, deed in zip(touches, deeds_of_steps(hall, plans)):
            self.assertIs(type(touch), tuple)
            hand, word, place, number = touch
            self.assertIs(type(number), int)
            self.assertGreaterEqual(number, 0)
            self.assertEqual(place // many, THINGS[deed[0]])
            if word == "put":
                self.assertEqual(place % many, hand)
                self.assertNotIn(deed[0], TELLING)
                held[place] = number
            else:
                self.assertEqual(word, "take")
                self.assertIn(place, range(5 * many))
                self.assertEqual(number, held[place])
        self.assertEqual([touch[0] for touch in touches], self.hands_that_stepped(hall, plans, row))

    def hands_that_stepped(self, hall, plans, row):
        """The row without the hands whose plans were at their ends."""
        left = [len(plan) for plan in plans]
        ends = {record[3] for record in hall.records()}
        found = []
        for hand in row:
            if left[hand] > 0:
                left[hand] -= len(found) in ends
                found.append(hand)
        return found

    def test_over_many_weavings(self):
        for label, plans, row in many_cases("touches", 2, 12, 300):
            with self.subTest(label):
                self.check(woven(plans, row), plans, row)

    def test_to_the_end_of_long_plans(self):
        for label, plans, row in many_cases("long touches", 1, 40, 1500):
            with self.subTest(label):
                self.check(woven(plans, row), plans, row)

    def test_each_step_touches_one_box_once(self):
        # All is built of boxes: the touches are just what is done to the hall's own.
        seen = []

        class Seen(Boxes):
            def take(self, place):
                number = Boxes.take(self, place)
                seen.append(("take", place, number))
                return number

            def put(self, place, number):
                seen.append(("put", place, number))
                Boxes.put(self, place, number)

        for label, plans, row in many_cases("seen", 1, 5, 100):
            with self.subTest(label):
                hall = Hall(plans)
                hall._boxes = Seen(5 * len(plans))
                seen.clear()
                hall.weave(row)
                hall.order()
                self.assertEqual([touch[1:] for touch in hall.touches()], seen)

    def test_what_changes_nothing_puts_nothing_and_all_else_puts_last(self):
        for many in (1, 2, 3, 4):
            for deed in DEEDS:
                with self.subTest(many=many, deed=deed):
                    hall = Hall([[deed]] + [[]] * (many - 1))
                    finish(hall, many)
                    words = [touch[1] for touch in hall.touches()]
                    puts = 0 if deed[0] in TELLING else 1
                    self.assertEqual(words.count("put"), puts)
                    self.assertEqual(words[len(words) - puts:], ["put"] * puts)


class MostStepsTest(unittest.TestCase):
    def check(self, hall, many):
        for deed, steps in steps_of_deeds(hall):
            self.assertLessEqual(steps, limit(deed, many), deed)

    def test_over_many_weavings(self):
        for label, plans, row in many_cases("steps", 2, 40, 1500):
            with self.subTest(label):
                hall = Hall(plans)
                for hand in row:
                    hall.step(hand)
                    self.assertLess(hall.steps_of(hand), 22)
                self.check(hall, len(plans))

    def test_a_deed_underway_stays_below_its_count(self):
        for label, plans, row in many_cases("underway", 1, 6, 150):
            with self.subTest(label):
                hall, done = Hall(plans), [0] * len(plans)
                for hand in row:
                    hall.step(hand)
                    done[hand] = len([record for record in hall.records() if record[0] == hand])
                    if done[hand] < len(plans[hand]):
                        self.assertLess(hall.steps_of(hand), limit(plans[hand][done[hand]], len(plans)))

    def test_whoever_stands_still(self):
        # Each other hand stands still for ever behind so many steps of such a deed.
        for many in (2, 3, 4):
            for theirs in DEEDS:
                for still in range(1, 22):
                    plans = [list(DEEDS)] + [[(("give", 5) if theirs[0] == "take" else theirs)] * 3] * (many - 1)
                    hall = Hall(plans)
                    for hand in range(1, many):
                        hall.weave([hand] * (still + hand))
                    finish(hall, 1)
                    self.assertEqual([record[1] for record in hall.records() if record[0] == 0], list(DEEDS))
                    self.check(hall, many)

    def test_whoever_puts_between_two_readings(self):
        # Between two readings of the hand that scans, some other hand ends a deed.
        for many in (2, 3, 4):
            for mine, theirs in (("look", ("set", 5)), ("set", ("set", 6)), ("sum", ("add", 1)), ("add", ("add", 2)),
                                 ("top", ("raise", 3)), ("raise", ("raise", 4))):
                for turns in ([1] * 9, list(range(1, many)) * 9, sorted(list(range(1, many)) * 3)):
                    for ahead in range(many + 1):
                        with self.subTest(many=many, mine=mine, turns=turns, ahead=ahead):
                            deed = (mine,) if mine in TELLING else (mine, 9)
                            self.check(self.disturbed(deed, theirs, many, turns, ahead), many)

    def disturbed(self, deed, theirs, many, turns, ahead):
        hall = Hall([[deed]] + [[theirs] * 40] * (many - 1))
        hall.weave([0] * ahead)
        for hand in turns:
            hall.step(hand)
            while hall.steps_of(hand):
                hall.step(hand)
            hall.weave([0] * many)
        finish(hall, 1)
        return hall


class HangsOnTest(unittest.TestCase):
    """What a hand does next hangs on its plan and the numbers that it took, alone."""

    def setUp(self):
        self.known = {}
        self.met = 0

    def same(self, key, found):
        if key in self.known:
            self.met += 1
        self.assertEqual(self.known.setdefault(key, found), found)

    def learn(self, hall, plans):
        ends = {record[3]: record for record in hall.records()}
        behind = [((hand, len(plans), tuple(plans[hand])),) for hand in range(len(plans))]
        for now, (hand, word, place, number) in enumerate(hall.touches()):
            # What stands in a box is not up to the hand; which box it takes from is, and all that it puts.
            self.same((behind[hand], "next"), (word, place, number if word == "put" else None))
            behind[hand] += ((word, place, number),)
            told = (ends[now][1], ends[now][4]) if now in ends else None
            self.same((behind[hand], "told"), told)

    def test_all_weavings_of_two_hands(self):
        for mine, theirs, counts in (
            ([("look",)], [("set", 1), ("set", 2)], (6, 10)),
            ([("set", 3)], [("set", 1)], (7, 7)),
            ([("sum",)], [("add", 1)], (6, 7)),
            ([("take",), ("take",)], [("give", 1), ("give", 2)], (8, 6)),
            ([("count",), ("count",), ("one",)], [("one",), ("one",), ("count",)], (5, 4)),
        ):
            for row in all_rows(counts):
                self.learn(woven([mine, theirs], row), [mine, theirs])
        self.assertGreater(self.met, 10000)

    def test_other_plans_of_other_hands(self):
        mine = [("look",), ("take",), ("count",), ("sum",), ("give", 4), ("top",), ("set", 2), ("take",), ("look",)]
        for label, plans, row in many_cases("hangs", 1, 6, 60):
            plans[0] = mine
            with self.subTest(label):
                self.learn(woven(plans, row), plans)
        self.assertGreater(self.met, 100)


if __name__ == "__main__":
    unittest.main()
