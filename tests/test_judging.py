import unittest
from itertools import permutations
from random import Random

from reference import fault
from stillhands.errors import NoDeed
from stillhands.judging import found_order, keeps
from weavings import KINDS, any_deed, many_cases, woven

# (hand, deed, begin, end, answer), each of them on its own behind the one before.
ROW = [
    (0, ("one",), 0, 0, None),
    (1, ("set", 4), 1, 3, None),
    (1, ("add", 5), 4, 6, None),
    (0, ("raise", 6), 7, 9, None),
    (1, ("give", 0), 10, 12, None),
    (0, ("take",), 13, 15, 0),
    (0, ("look",), 16, 18, (0, 4)),
    (0, ("count",), 19, 20, 1),
    (1, ("sum",), 21, 23, 5),
    (1, ("top",), 24, 26, 6),
]


def at_once(records):
    """The same records, but that none of them ended ahead of another one's beginning."""
    return [(hand, deed, 0, 100, answer) for hand, deed, _, _, answer in records]


def changed(records, place, answer):
    hand, deed, begin, end, _ = records[place]
    return records[:place] + [(hand, deed, begin, end, answer)] + records[place + 1:]


def any_records(chance, most):
    many = chance.randrange(1, 4)
    words = KINDS[chance.choice(sorted(KINDS))]
    records = []
    for _ in range(chance.randrange(most + 1)):
        hand = chance.randrange(many)
        deed = any_deed(chance, words, hand, (0, 1, 2))
        begin = chance.randrange(8)
        answer = None
        if deed[0] in ("count", "sum", "top"):
            answer = chance.randrange(3)
        elif deed[0] == "look":
            answer = tuple(chance.randrange(2) for _ in range(many))
        elif deed[0] == "take":
            hand, answer = 0, chance.choice((None, 0, 1, 2))
        records.append((hand, deed, begin, begin + chance.randrange(6), answer))
    return records, many


class KeepsTest(unittest.TestCase):
    def yes(self, records, order, many=2):
        self.assertIs(keeps(records, order, many), True)

    def no(self, records, order, many=2):
        self.assertIs(keeps(records, order, many), False)

    def test_none(self):
        for many in (1, 2, 3, 4):
            self.yes([], [], many)
            self.no([], [0], many)
            self.no([], [-1], many)

    def test_one_behind_another(self):
        self.yes(ROW, list(range(10)))
        self.yes(at_once(ROW), list(range(10)))

    def test_records_in_another_order(self):
        records = [ROW[k] for k in (3, 1, 4, 0, 5, 9, 2, 6, 8, 7)]
        self.yes(records, [3, 1, 6, 0, 2, 4, 7, 9, 8, 5])
        self.no(records, list(range(10)))

    def test_a_place_twice(self):
        self.no(ROW, [0, 1, 2, 3, 4, 5, 6, 7, 8, 8])
        self.no(ROW, [0, 1, 2, 3, 4, 5, 6, 7, 8, 9, 9])
        self.no(ROW, [0] + list(range(10)))
        self.no([(0, ("set", 1), 0, 9, None)] * 2, [0, 0])
        self.no([(0, ("set", 1), 0, 9, None)] * 2, [1, 1])
        self.yes([(0, ("set", 1), 0, 9, None)] * 2, [1, 0])

    def test_a_place_left_out(self):
        for place in range(10):
            self.no(ROW, [k for k in range(10) if k != place])
        self.no(ROW, [])
        self.no(ROW[:1], [])

    def test_a_place_that_there_is_not(self):
        for wrong in (10, 11, 99, 10 ** 30):
            self.no(ROW, list(range(9)) + [wrong])
            self.no(ROW, list(range(10)) + [wrong])
            self.no(ROW, [wrong] + list(range(10)))
        self.no(ROW[:1], [1])

    def test_a_place_below_0(self):
        for wrong in (-1, -2, -10, -(10 ** 30)):
            self.no(ROW, list(range(9)) + [wrong])
            self.no(ROW, [wrong] + list(range(10)))
        self.no(ROW[:1], [-1])
        self.no(ROW, list(range(-10, 0)))

    def test_an_answer_told_otherwise(self):
        wrong = (None, 0, 1, 4, 5, 6, 7, 999, (), (0,), (1,), (5,), (6,), (0, 4), (4, 0), (0, 4, 0), (0, None), (None,))
        for place in range(10):
            for answer in wrong:
                if answer != ROW[place][4]:
                    with self.subTest(place=place, answer=answer):
                        self.no(changed(ROW, place, answer), list(range(10)))
                        self.no(changed(at_once(ROW), place, answer), list(range(10)))

    def test_empty_line(self):
        self.yes([(0, ("take",), 0, 0, None)], [0])
        self.no([(0, ("take",), 0, 0, 0)], [0])
        self.no([(0, ("take",), 0, 0, ())], [0])
        self.no([(0, ("give", 0), 0, 0, None), (0, ("take",), 1, 1, None)], [0, 1])
        self.no([(0, ("give", 0), 0, 0, 0), (0, ("take",), 1, 1, 0)], [0, 1])

    def test_behind_one_that_began_behind_its_end(self):
        one, two = (0, ("add", 1), 2, 5, None), (1, ("add", 2), 6, 7, None)
        self.yes([one, two], [0, 1])
        self.no([one, two], [1, 0])
        self.yes([two, one], [1, 0])
        self.no([two, one], [0, 1])

    def test_begun_at_the_very_end(self):
        # The second one did not begin behind the end of the first one.
        one, two = (0, ("add", 1), 2, 5, None), (1, ("add", 2), 5, 7, None)
        self.yes([one, two], [0, 1])
        self.yes([one, two], [1, 0])
        self.yes([(0, ("one",), 3, 3, None)] * 3, [2, 0, 1])

    def test_far_behind_one_that_began_behind_its_end(self):
        records = [(0, ("add", 1), 0, 4, None), (1, ("add", 2), 3, 9, None), (1, ("add", 3), 5, 9, None)]
        for order in permutations(range(3)):
            right = order.index(0) < order.index(2)
            self.assertIs(keeps(records, list(order), 2), right)
        records = [(1, ("one",), 5, 9, None)] + [(1, ("one",), 0, 20, None)] * 30 + [(0, ("one",), 0, 4, None)]
        self.no(records, list(range(32)))
        self.yes(records, [31] + list(range(31)))

    def test_hands_and_their_cells(self):
        for many in (1, 2, 3, 4):
            for hand in range(many):
                cells = tuple(7 if k == hand else 0 for k in range(many))
                records = [(hand, ("set", 7), 0, 1, None), (0, ("look",), 2, 3, cells)]
                self.yes(records, [0, 1], many)
                self.no(records, [0, 1], many + 1)
        records = [(0, ("set", 7), 0, 1, None), (0, ("look",), 2, 3, (0, 7))]
        self.no(records, [0, 1])

    def test_order_of_the_line(self):
        records = [(0, ("give", 1), 0, 9, None), (1, ("give", 2), 0, 9, None), (0, ("take",), 10, 11, 2),
                   (0, ("take",), 12, 13, 1), (0, ("take",), 14, 15, None)]
        self.yes(records, [1, 0, 2, 3, 4])
        self.no(records, [0, 1, 2, 3, 4])

    def test_any_orders_of_any_records(self):
        found = [0, 0]
        for turn in range(3000):
            chance = Random(f"keeps {turn}")
            records, many = any_records(chance, 4)
            order = list(range(len(records)))
            chance.shuffle(order)
            if order and chance.randrange(10) == 0:
                order[chance.randrange(len(order))] = chance.randrange(-1, len(order) + 1)
            right = fault(records, order, many) is None
            found[right] += 1
            self.assertIs(keeps(records, order, many), right, (records, order))
        self.assertGreater(min(found), 500)

    def test_orders_of_halls_that_are_spoiled(self):
        for label, plans, row in many_cases("spoiled", 1, 10, 300):
            chance = Random(label)
            hall = woven(plans, row)
            records, order = hall.records(), hall.order()
            if len(order) > 1:
                with self.subTest(label):
                    self.yes(records, order, len(plans))
                    place = chance.randrange(len(order))
                    self.no(records, order[:place] + order[place + 1:], len(plans))
                    self.no(changed(records, place, 777777), order, len(plans))
                    order.reverse()
                    right = fault(records, order, len(plans)) is None
                    self.assertIs(keeps(records, order, len(plans)), right)


class FoundOrderTest(unittest.TestCase):
    def found(self, records, many=2):
        order = found_order(records, many)
        self.assertIs(type(order), list)
        self.assertIsNone(fault(records, order, many))

    def none(self, records, many=2):
        self.assertIsNone(found_order(records, many))

    def test_no_records(self):
        for many in (1, 2, 3, 4):
            self.assertEqual(found_order([], many), [])

    def test_one_record(self):
        for record in ROW[:5]:
            self.found([record])
        self.found([(0, ("take",), 3, 3, None)])
        self.none([(0, ("take",), 3, 3, 0)])
        self.none([(0, ("one",), 3, 3, 0)])
        self.none([(0, ("look",), 3, 3, (0, 0, 0))])

    def test_ten_records_that_some_order_keeps(self):
        self.found(ROW)
        self.found(at_once(ROW))
        self.found(ROW[::-1])
        self.found(at_once(ROW)[::-1])
        self.found(at_once(ROW[5:] + ROW[:5]))

    def test_ten_records_that_none_keeps(self):
        for place in range(10):
            for answer in (77, (0, 77), ()):
                self.none(changed(ROW, place, answer))
                self.none(changed(at_once(ROW), place, answer))

    def test_ten_records_of_one_thing(self):
        gives = [(k % 4, ("give", k), 0, 99, None) for k in range(7)]
        takes = [(0, ("take",), 0, 99, k) for k in range(7)]
        nothing = (0, ("take",), 0, 99, None)
        self.found(gives[:5] + takes[4::-1], 4)
        self.found(gives[:5] + [takes[3], nothing, takes[0], nothing, nothing], 4)
        self.none(gives[:5] + takes[2:], 4)
        self.none(gives[:7] + takes[:2] + [(0, ("take",), 0, 99, 9)], 4)
        self.none([(k, ("give", k), 0, 9, None) for k in range(4)] + [(0, ("take",), 10, 99, None)] * 6, 4)
        sets = [(k % 3, ("set", k), 0, 99, None) for k in range(9)]
        self.found(sets + [(0, ("look",), 0, 99, (3, 4, 2))], 3)
        self.found(sets + [(0, ("look",), 100, 101, (0, 7, 8))], 3)
        self.none(sets + [(0, ("look",), 100, 101, (1, 7, 8))], 3)
        self.none(sets + [(0, ("look",), 100, 101, (0, 7, 0))], 3)
        ones = [(k % 4, ("one",), 0, 99, None) for k in range(9)]
        self.found(ones + [(0, ("count",), 0, 99, 6)], 4)
        self.none(ones + [(0, ("count",), 0, 99, 10)], 4)
        self.none(ones + [(0, ("count",), 100, 101, 8)], 4)

    def test_what_began_behind_an_end(self):
        give, other = (0, ("give", 1), 0, 4, None), (1, ("give", 2), 5, 9, None)
        self.none([give, other, (0, ("take",), 10, 11, 2)])
        self.found([give, other, (0, ("take",), 10, 11, 1)])
        late = (1, ("give", 2), 4, 9, None)
        self.found([give, late, (0, ("take",), 10, 11, 2)])

    def test_two_looks_that_do_not_agree(self):
        sets = [(0, ("set", 1), 0, 9, None), (1, ("set", 2), 0, 9, None)]
        looks = [(0, ("look",), 0, 9, (1, 0)), (1, ("look",), 0, 9, (0, 2))]
        self.found(sets + looks[:1])
        self.found(sets + looks[1:])
        self.none(sets + looks)

    def test_as_trying_all_orders_tells(self):
        told = [0, 0]
        for turn in range(1500):
            records, many = any_records(Random(f"found {turn}"), 5)
            right = [list(order) for order in permutations(range(len(records)))
                     if fault(records, order, many) is None]
            told[bool(right)] += 1
            found = found_order(records, many)
            if right:
                self.assertIn(found, right)
            else:
                self.assertIsNone(found, records)
        self.assertGreater(min(told), 300)

    def test_first_records_of_halls(self):
        for label, plans, row in many_cases("first", 2, 6, 100):
            with self.subTest(label):
                self.found(woven(plans, row).records()[:10], len(plans))

    def test_more_than_ten(self):
        for more in (11, 12, 40):
            records = [(0, ("one",), k, k, None) for k in range(more)]
            with self.subTest(more=more):
                with self.assertRaises(NoDeed):
                    found_order(records, 1)
                with self.assertRaises(NoDeed):
                    found_order([(0, ("one",), 0, 0, 5)] * more, 1)
        self.found([(0, ("one",), k, k, None) for k in range(10)], 1)


if __name__ == "__main__":
    unittest.main()
