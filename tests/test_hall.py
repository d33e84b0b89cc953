import unittest

from reference import limit
from stillhands.errors import NoDeed, NoHand
from stillhands.hall import Hall
from weavings import answers, ended, many_cases, woven

# The last ones are too long for Python to write out in figures.
NO_HANDS = (-1, -2, -4, 4, 5, 10 ** 30, 10 ** 6000, -(10 ** 6000))
DEEDS = (("one",), ("count",), ("set", 5), ("look",), ("add", 5), ("sum",), ("raise", 5), ("top",), ("give", 5),
         ("take",))


def all_told(hall, many):
    return hall.records(), hall.order(), hall.touches(), [hall.steps_of(hand) for hand in range(many)]


class PlansTest(unittest.TestCase):
    def refused(self, error, plans):
        with self.assertRaises(error):
            Hall(plans)

    def test_one_to_four_hands(self):
        for many in (1, 2, 3, 4):
            with self.subTest(many=many):
                hall = Hall([[("one",)] for _ in range(many)])
                self.assertEqual(hall.weave(list(range(many))), many)

    def test_no_plans(self):
        self.refused(NoHand, [])

    def test_more_than_four_plans(self):
        for many in (5, 6, 40):
            with self.subTest(many=many):
                self.refused(NoHand, [[]] * many)
                self.refused(NoHand, [[("one",)]] * many)

    def test_more_than_four_plans_ahead_of_all_else(self):
        self.refused(NoHand, [[("jump",)]] + [[]] * 4)
        self.refused(NoHand, [[()]] * 5)
        self.refused(NoHand, [[("one",)] * 41] * 5)
        self.refused(NoHand, [[]] * 4 + [[("take",)]])

    def test_empty_plans(self):
        for many in (1, 2, 3, 4):
            hall = Hall([[]] * many)
            self.assertEqual(all_told(hall, many), ([], [], [], [0] * many))

    def test_a_plan_of_forty_deeds(self):
        for hand in range(4):
            plans = [[], [], [], []]
            plans[hand] = [("one",)] * 40
            hall = Hall(plans)
            self.assertEqual(hall.weave([hand] * 100), 40)
            self.assertEqual(len(hall.records()), 40)

    def test_four_plans_of_forty_deeds(self):
        hall = ended([[("look",)] * 40, [("set", 999)] * 40, [("add", 999)] * 40, [("give", 999)] * 40])
        self.assertEqual(len(hall.records()), 160)

    def test_a_plan_of_forty_one_deeds(self):
        for hand in range(4):
            for many in (41, 42, 100):
                plans = [[], [], [], []]
                plans[hand] = [("one",)] * many
                with self.subTest(hand=hand, many=many):
                    self.refused(NoDeed, plans)

    def test_a_deed_that_is_none(self):
        for deed in ((), ("jump",), ("one", 1), ("set",), ("set", 1, 2), ("give", -1), ("raise", 1000),
                     ("add", 10 ** 6000), ("take", 0)):
            for hand in range(3):
                for place in range(3):
                    plans = [[("one",)] * 2 for _ in range(3)]
                    plans[hand].insert(place, deed)
                    with self.subTest(word=deed[:1], hand=hand, place=place):
                        self.refused(NoDeed, plans)

    def test_hand_0_alone_takes(self):
        self.assertEqual(Hall([[("take",)], []]).records(), [])
        for hand in (1, 2, 3):
            plans = [[("one",), ("take",)] if hand == k else [] for k in range(4)]
            with self.subTest(hand=hand):
                self.refused(NoDeed, plans)


class StepTest(unittest.TestCase):
    def test_each_deed_alone(self):
        told = {"count": 0, "sum": 0, "top": 0}
        for many in (1, 2, 3, 4):
            for hand in range(many):
                for deed in DEEDS:
                    if deed[0] == "take" and hand != 0:
                        continue
                    with self.subTest(many=many, hand=hand, deed=deed):
                        plans = [[] for _ in range(many)]
                        plans[hand] = [deed]
                        hall = Hall(plans)
                        steps = 0
                        while hall.step(hand):
                            steps += 1
                        answer = (0,) * many if deed[0] == "look" else told.get(deed[0])
                        self.assertEqual(hall.records(), [(hand, deed, 0, steps - 1, answer)])
                        self.assertTrue(1 <= steps <= limit(deed, many))

    def test_one_behind_another(self):
        for many in (1, 2, 3, 4):
            with self.subTest(many=many):
                plan = [("one",), ("count",), ("set", 7), ("look",), ("add", 3), ("add", 4), ("sum",), ("raise", 9),
                        ("raise", 2), ("top",), ("take",), ("give", 0), ("give", 8), ("take",), ("take",), ("take",)]
                hall = ended([plan] + [[]] * (many - 1))
                self.assertEqual([record[1] for record in hall.records()], plan)
                right = [None, 1, None, (7,) + (0,) * (many - 1), None, None, 7, None, None, 9, None, None, None, 0, 8,
                         None]
                self.assertEqual(answers(hall), right)

    def test_step_tells_true_and_then_false(self):
        hall = Hall([[("one",), ("one",)], [("one",)]])
        self.assertIs(hall.step(0), True)
        self.assertIs(hall.step(1), True)
        self.assertIs(hall.step(1), False)
        self.assertIs(hall.step(0), True)
        self.assertIs(hall.step(0), False)
        self.assertIs(hall.step(0), False)

    def test_a_step_at_the_end_of_a_plan_is_none(self):
        hall = Hall([[("one",)], [("one",), ("one",)], []])
        hall.step(0)
        before = all_told(hall, 3)
        self.assertIs(hall.step(0), False)
        self.assertIs(hall.step(2), False)
        self.assertEqual(hall.weave([0, 2, 2, 0]), 0)
        self.assertEqual(all_told(hall, 3), before)
        self.assertEqual(hall.weave([0, 1, 2]), 1)
        self.assertEqual(hall.records()[1], (1, ("one",), 1, 1, None))

    def test_weave_tells_how_many_steps_were_done(self):
        hall = Hall([[("one",)] * 3, [("one",)]])
        self.assertEqual(hall.weave([]), 0)
        self.assertEqual(hall.weave([0, 1, 1, 0]), 3)
        self.assertEqual(hall.weave([1, 0, 0, 0, 1]), 1)
        self.assertEqual(hall.weave([0, 1]), 0)

    def test_weave_and_step_do_the_same(self):
        for label, plans, row in many_cases("weave", 1, 8, 120):
            with self.subTest(label):
                hall, other = woven(plans, row), Hall(plans)
                for hand in row:
                    other.step(hand)
                self.assertEqual(all_told(hall, len(plans)), all_told(other, len(plans)))

    def test_steps_are_counted_over_all_hands(self):
        hall = woven([[("one",)] * 3, [("one",)] * 3], [1, 0, 0, 1, 1, 0])
        self.assertEqual([record[:4] for record in hall.records()], [
            (1, ("one",), 0, 0), (0, ("one",), 1, 1), (0, ("one",), 2, 2),
            (1, ("one",), 3, 3), (1, ("one",), 4, 4), (0, ("one",), 5, 5),
        ])

    def test_records_stand_as_the_deeds_ended(self):
        hall = woven([[("look",)], [("one",)], [("one",)]], [0, 2, 1] + [0] * 12)
        self.assertEqual([record[0] for record in hall.records()], [2, 1, 0])
        self.assertEqual(hall.records()[2][2], 0)
        self.assertEqual(hall.records()[2][3], len(hall.touches()) - 1)

    def test_records_follow_from_the_steps(self):
        # Begin, end and steps_of are found once more, from the row and steps_of alone.
        for label, plans, row in many_cases("records", 1, 6, 150):
            with self.subTest(label):
                hall, many = Hall(plans), len(plans)
                begun, done, right, now = [None] * many, [0] * many, [], 0
                counted = [0] * many
                for hand in row:
                    did = hall.step(hand)
                    self.assertIs(did, done[hand] < len(plans[hand]))
                    if not did:
                        continue
                    if begun[hand] is None:
                        begun[hand] = now
                    counted[hand] += 1
                    if len(hall.records()) > len(right):
                        right.append((hand, plans[hand][done[hand]], begun[hand], now))
                        done[hand], begun[hand], counted[hand] = done[hand] + 1, None, 0
                    now += 1
                    self.assertEqual([hall.steps_of(k) for k in range(many)], counted)
                self.assertEqual([record[:4] for record in hall.records()], right)
                self.assertEqual(len(hall.touches()), now)

    def test_steps_of(self):
        hall = Hall([[("count",), ("count",)], [("one",)], []])
        self.assertEqual([hall.steps_of(hand) for hand in (0, 1, 2)], [0, 0, 0])
        found = []
        for _ in range(7):
            hall.step(0)
            found.append(hall.steps_of(0))
        self.assertEqual(found, [1, 2, 0, 1, 2, 0, 0])
        self.assertEqual([hall.steps_of(hand) for hand in (1, 2)], [0, 0])
        hall.step(1)
        self.assertEqual(hall.steps_of(1), 0)


class NoHandTest(unittest.TestCase):
    def refused(self, hall, many, call):
        before = all_told(hall, many)
        with self.assertRaises(NoHand):
            call()
        self.assertEqual(all_told(hall, many), before)

    def test_step_and_steps_of(self):
        for many in (1, 2, 3, 4):
            for hand in NO_HANDS + (many, -many):
                if 0 <= hand < many:
                    continue
                with self.subTest(many=many, bits=hand.bit_length(), below=hand < 0):
                    hall = Hall([[("look",), ("one",)]] * many)
                    hall.weave([0, many - 1])
                    self.refused(hall, many, lambda: hall.step(hand))
                    self.refused(hall, many, lambda: hall.steps_of(hand))

    def test_weave(self):
        for wrong in NO_HANDS:
            for row in ([wrong], [wrong, 0, 1], [0, 1, 2, wrong, 3, 0], [0, 1, 2, 3, 0, wrong], [0] * 500 + [wrong]):
                with self.subTest(bits=wrong.bit_length(), below=wrong < 0, many=len(row)):
                    hall = Hall([[("look",), ("one",)]] * 4)
                    hall.weave([0, 0, 3])
                    self.refused(hall, 4, lambda: hall.weave(row))

    def test_weave_refuses_at_the_end_of_all_plans(self):
        hall = ended([[("one",)], []])
        self.refused(hall, 2, lambda: hall.weave([0, 1, 2]))
        self.refused(hall, 2, lambda: hall.weave([-1]))

    def test_the_hall_goes_on_behind_a_refusal(self):
        hall = Hall([[("one",)] * 2])
        with self.assertRaises(NoHand):
            hall.weave([0, 1])
        self.assertEqual(hall.weave([0, 0, 0]), 2)


if __name__ == "__main__":
    unittest.main()
