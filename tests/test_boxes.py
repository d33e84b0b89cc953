import unittest

from stillhands.boxes import Boxes
from stillhands.errors import NoBox
from stillhands.packing import packed

GREAT = (packed([999999] * 100), 10 ** 700, 2 ** 64, 2 ** 63 - 1)


def all_taken(boxes, many):
    return [boxes.take(place) for place in range(many)]


def places_outside(many):
    # The last two are too long for Python to write out in figures.
    return (-1, -2, -many, -many - 1, -1000, many, many + 1, 2 * many + 1, 10 ** 30, 10 ** 6000, -(10 ** 6000))


class BoxesTest(unittest.TestCase):
    def test_each_box_holds_zero_at_first(self):
        for many in (1, 2, 5, 20):
            with self.subTest(many=many):
                self.assertEqual(all_taken(Boxes(many), many), [0] * many)

    def test_take_tells_what_was_put(self):
        boxes = Boxes(3)
        boxes.put(0, 4)
        boxes.put(1, 5)
        boxes.put(2, 6)
        self.assertEqual(all_taken(boxes, 3), [4, 5, 6])

    def test_take_tells_what_was_put_last(self):
        boxes = Boxes(1)
        for number in (8, 3, 0, 12, 12, 1):
            boxes.put(0, number)
            self.assertEqual(boxes.take(0), number)

    def test_a_taken_number_stays_in_its_box(self):
        boxes = Boxes(2)
        boxes.put(1, 9)
        self.assertEqual([boxes.take(1) for _ in range(3)], [9, 9, 9])

    def test_put_tells_none(self):
        boxes = Boxes(2)
        self.assertIsNone(boxes.put(0, 5))
        self.assertIsNone(boxes.put(0, 6))
        self.assertIsNone(boxes.put(1, 0))

    def test_great_numbers(self):
        boxes = Boxes(2)
        for number in GREAT:
            boxes.put(1, number)
            self.assertEqual(boxes.take(1), number)
            self.assertEqual(boxes.take(0), 0)

    def test_the_other_boxes_stay(self):
        for place in range(6):
            with self.subTest(place=place):
                boxes = Boxes(6)
                held = [10, 11, 12, 13, 14, 15]
                for k in range(6):
                    boxes.put(k, held[k])
                boxes.put(place, 99)
                held[place] = 99
                self.assertEqual(all_taken(boxes, 6), held)

    def test_the_boxes_of_another_stay(self):
        one, other = Boxes(3), Boxes(3)
        one.put(1, 5)
        self.assertEqual(all_taken(other, 3), [0, 0, 0])
        other.put(1, 6)
        other.put(2, 7)
        self.assertEqual(all_taken(one, 3), [0, 5, 0])
        self.assertEqual(all_taken(Boxes(3), 3), [0, 0, 0])


class NoBoxTest(unittest.TestCase):
    def test_take_refuses(self):
        for many in (1, 2, 5):
            for place in places_outside(many):
                with self.subTest(many=many, bits=place.bit_length(), below=place < 0):
                    boxes = Boxes(many)
                    with self.assertRaises(NoBox):
                        boxes.take(place)

    def test_put_refuses(self):
        for many in (1, 2, 5):
            for place in places_outside(many):
                with self.subTest(many=many, bits=place.bit_length(), below=place < 0):
                    boxes = Boxes(many)
                    with self.assertRaises(NoBox):
                        boxes.put(place, 3)

    def test_first_and_last_box_are_there(self):
        for many in (1, 2, 5):
            with self.subTest(many=many):
                boxes = Boxes(many)
                boxes.put(0, 1)
                boxes.put(many - 1, 2)
                self.assertEqual(boxes.take(many - 1), 2)

    def test_none_at_all(self):
        boxes = Boxes(0)
        for place in (0, 1, -1, -2, 7):
            with self.subTest(place=place):
                with self.assertRaises(NoBox):
                    boxes.take(place)
                with self.assertRaises(NoBox):
                    boxes.put(place, 3)

    def test_a_refused_call_changes_no_box(self):
        for place in places_outside(4):
            with self.subTest(bits=place.bit_length(), below=place < 0):
                boxes = Boxes(4)
                for k in range(4):
                    boxes.put(k, 20 + k)
                with self.assertRaises(NoBox):
                    boxes.put(place, 3)
                with self.assertRaises(NoBox):
                    boxes.take(place)
                self.assertEqual(all_taken(boxes, 4), [20, 21, 22, 23])

    def test_a_refused_call_makes_no_box(self):
        boxes = Boxes(2)
        with self.assertRaises(NoBox):
            boxes.put(2, 3)
        with self.assertRaises(NoBox):
            boxes.take(2)
        with self.assertRaises(NoBox):
            boxes.put(2, 3)


if __name__ == "__main__":
    unittest.main()
