"""Lists that are handed in, and lists that are told."""

import unittest

from stillhands.hall import Hall
from stillhands.judging import found_order, keeps
from weavings import finish, many_cases, woven

PLANS = [[("one",), ("look",), ("take",)], [("set", 4), ("give", 5)], [("count",), ("add", 7), ("give", 6)]]
ROW = [0, 1, 2] * 6 + [1] * 20 + [2] * 20 + [0] * 20


def copied(plans):
    return [list(plan) for plan in plans]


def all_told(hall):
    return hall.records(), hall.order(), hall.touches()


class HandedInTest(unittest.TestCase):
    def test_plans_and_rows_stay_as_they_are(self):
        for label, plans, row in many_cases("handed", 1, 5, 150):
            with self.subTest(label):
                kept, kept_row = copied(plans), list(row)
                hall = woven(plans, row)
                finish(hall, len(plans))
                hall.order()
                self.assertEqual((plans, row), (kept, kept_row))

    def test_plans_changed_behind_the_call(self):
        right = all_told(woven(copied(PLANS), ROW))
        plans = copied(PLANS)
        hall = Hall(plans)
        plans[0][1] = ("one",)
        plans[1].clear()
        plans[2].append(("one",))
        del plans[2]
        plans.append([("one",)] * 40)
        hall.weave(ROW)
        finish(hall, 3)
        self.assertEqual(all_told(hall), right)

    def test_plans_changed_underway(self):
        right = all_told(woven(copied(PLANS), ROW))
        plans = copied(PLANS)
        hall = Hall(plans)
        hall.weave(ROW[:10])
        for plan in plans:
            plan.reverse()
        plans.clear()
        hall.weave(ROW[10:])
        self.assertEqual(all_told(hall), right)

    def test_one_list_for_several_hands(self):
        plan = [("one",), ("count",)]
        hall = Hall([plan, plan])
        hall.weave([0, 1, 0, 0, 1, 1])
        self.assertEqual([record[4] for record in hall.records()], [None, None, 2, 2])
        self.assertEqual(plan, [("one",), ("count",)])

    def test_a_row_changed_behind_the_call(self):
        hall, row = Hall([[("one",)] * 3]), [0, 0]
        hall.weave(row)
        row.append(0)
        self.assertEqual(len(hall.records()), 2)

    def test_records_and_orders_to_be_judged(self):
        records = [(0, ("give", 1), 0, 3, None), (0, ("take",), 1, 2, 1), (1, ("look",), 0, 9, (0, 0))]
        order, kept = [0, 2, 1], list(records)
        self.assertTrue(keeps(records, order, 2))
        self.assertEqual((records, order), (kept, [0, 2, 1]))
        self.assertFalse(keeps(records, [1, 0, 2], 2))
        found_order(records, 2)
        self.assertEqual(records, kept)


class ToldTest(unittest.TestCase):
    def spoiled(self, told):
        told.append(99)
        told[0] = 98
        told.reverse()

    def test_a_halls_lists(self):
        hall = woven(PLANS, ROW[:30])
        right = all_told(hall)
        for told in all_told(hall):
            self.assertIs(type(told), list)
            self.spoiled(told)
        self.assertEqual(all_told(hall), right)
        hall.weave(ROW[30:])
        self.assertEqual(all_told(hall), all_told(woven(PLANS, ROW)))

    def test_lists_that_were_told_do_not_grow(self):
        hall = woven(PLANS, ROW[:30])
        told = all_told(hall)
        kept = tuple(list(part) for part in told)
        hall.weave(ROW[30:])
        self.assertEqual(told, kept)

    def test_two_halls_side_by_side(self):
        one, other = Hall(PLANS), Hall(PLANS)
        one.weave(ROW)
        self.assertEqual(all_told(other), ([], [], []))
        other.weave(ROW)
        self.assertEqual(all_told(one), all_told(other))

    def test_a_found_order(self):
        records = [(0, ("one",), 0, 0, None), (0, ("count",), 1, 1, 1)]
        self.spoiled(found_order(records, 1))
        self.assertEqual(found_order(records, 1), [0, 1])
        told = found_order([], 1)
        told.append(5)
        self.assertEqual(found_order([], 1), [])


if __name__ == "__main__":
    unittest.main()
