import unittest

from stillhands.errors import NoNumber
from stillhands.packing import packed, parted

MILLION = 10 ** 6
HUNDRED = [(k * 7919 + 13) % MILLION for k in range(100)]

# The numbers are written out, so that packed and parted are not only tested against each other.
WRITTEN = (
    ([], 1),
    ([0], 1000000),
    ([1], 1000001),
    ([7], 1000007),
    ([999999], 1999999),
    ([0, 0], 1000000000000),
    ([1, 0], 1000000000001),
    ([0, 1], 1000001000000),
    ([1, 2, 3], 1000003000002000001),
    ([999999, 0, 999999], 1999999000000999999),
    ([0, 999999, 0], 1000000999999000000),
    ([5, 0, 0, 0], 1000000000000000000000005),
)

LONG = (
    HUNDRED,
    [0] * 100,
    [999999] * 100,
    [999999, 0] * 50,
    [0, 999999] * 50,
    HUNDRED[:99] + [0],
    [0] + HUNDRED[1:],
    list(range(99)),
    list(range(100)),
)

# The last two are too long for Python to write out in figures.
REFUSED = (
    -1, -2, -999999, -1000000, -(10 ** 30), MILLION, MILLION + 1, 2 * MILLION, 10 ** 30,
    10 ** 6000, -(10 ** 6000),
)


def as_the_document_says(row):
    if not row:
        return 1
    return row[0] + MILLION * as_the_document_says(row[1:])


class PackedTest(unittest.TestCase):
    def test_written_rows(self):
        for row, number in WRITTEN:
            with self.subTest(row=row):
                self.assertEqual(packed(row), number)

    def test_first_number_and_a_million_times_the_rest(self):
        for row in [row for row, _ in WRITTEN if row] + list(LONG):
            with self.subTest(row=row[:4], many=len(row)):
                self.assertEqual(packed(row), row[0] + MILLION * packed(row[1:]))

    def test_every_length_up_to_a_hundred(self):
        for many in range(101):
            with self.subTest(many=many):
                row = HUNDRED[:many]
                self.assertEqual(packed(row), as_the_document_says(row))

    def test_a_whole_number_is_told(self):
        for row in ([], [0], [1, 2], HUNDRED):
            with self.subTest(many=len(row)):
                self.assertIs(type(packed(row)), int)

    def test_numbers_at_the_edges_are_taken(self):
        for edge in (0, 1, 999998, 999999):
            for place in (0, 1, 2):
                with self.subTest(edge=edge, place=place):
                    row = [3, 4, 5]
                    row[place] = edge
                    self.assertEqual(packed(row), as_the_document_says(row))

    def test_rows_of_other_lengths_differ(self):
        told = [packed([0] * many) for many in range(101)]
        self.assertEqual(len(set(told)), 101)

    def test_the_row_stays_as_it_was(self):
        for row in [row for row, _ in WRITTEN] + list(LONG):
            with self.subTest(row=row[:4], many=len(row)):
                handed = list(row)
                packed(handed)
                self.assertEqual(handed, row)

    def test_a_row_changed_behind_the_call_changes_nothing_told(self):
        row = [1, 2]
        number = packed(row)
        row[0] = 9
        row.append(4)
        self.assertEqual(number, 1000002000001)
        self.assertEqual(packed([1, 2]), 1000002000001)
        self.assertEqual(packed(row), 1000004000002000009)


class PackedRefusesTest(unittest.TestCase):
    def refused(self, row):
        handed = list(row)
        with self.assertRaises(NoNumber):
            packed(handed)
        self.assertEqual(handed, row)

    def test_alone(self):
        for number in REFUSED:
            with self.subTest(bits=number.bit_length(), below=number < 0):
                self.refused([number])

    def test_first_middle_and_last_place(self):
        for number in REFUSED:
            for place in (0, 2, 4):
                with self.subTest(bits=number.bit_length(), below=number < 0, place=place):
                    row = [0, 999999, 3, 999999, 0]
                    row[place] = number
                    self.refused(row)

    def test_in_a_row_of_a_hundred(self):
        for number in REFUSED:
            for place in (0, 50, 99):
                with self.subTest(bits=number.bit_length(), below=number < 0, place=place):
                    row = list(HUNDRED)
                    row[place] = number
                    self.refused(row)

    def test_several_that_would_even_out(self):
        self.refused([MILLION, -1])
        self.refused([-MILLION, 1])
        self.refused([-1, MILLION, -1])

    def test_a_refusal_leaves_no_trace(self):
        self.refused([1, 2, -1])
        self.assertEqual(packed([1, 2]), 1000002000001)


class PartedTest(unittest.TestCase):
    def test_zero_is_the_empty_row(self):
        told = parted(0)
        self.assertIs(type(told), list)
        self.assertEqual(told, [])

    def test_written_rows(self):
        for row, number in WRITTEN:
            with self.subTest(row=row):
                told = parted(number)
                self.assertIs(type(told), list)
                self.assertEqual(told, row)

    def test_tells_the_row_again(self):
        for row in LONG:
            with self.subTest(row=row[:4], many=len(row)):
                self.assertEqual(parted(packed(row)), row)

    def test_every_length_up_to_a_hundred(self):
        for many in range(101):
            with self.subTest(many=many):
                self.assertEqual(parted(packed(HUNDRED[:many])), HUNDRED[:many])

    def test_every_length_with_a_last_zero(self):
        for many in range(100):
            with self.subTest(many=many):
                row = HUNDRED[:many] + [0]
                self.assertEqual(parted(packed(row)), row)

    def test_a_told_list_may_be_changed(self):
        for number in (0, 1, 1000000, 1000002000001):
            with self.subTest(number=number):
                first = parted(number)
                kept = list(first)
                first.append(77)
                first[0] = 78
                self.assertEqual(parted(number), kept)

    def test_told_lists_are_not_the_row_handed_in(self):
        row = [4, 5]
        told = parted(packed(row))
        told[0] = 9
        told.append(6)
        self.assertEqual(row, [4, 5])
        self.assertEqual(packed(row), 1000005000004)


if __name__ == "__main__":
    unittest.main()
