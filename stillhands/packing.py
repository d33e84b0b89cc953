"""Rows of numbers as one whole number."""

from stillhands.errors import NoNumber

LIMIT = 1000000


def packed(row):
    """The one whole number that stands for the row."""
    told = 1
    for number in reversed(row):
        # The message leaves the number out: Python itself fails to write very long ones.
        if number < 0 or number >= LIMIT:
            raise NoNumber("a number of the row is below 0 or above 999999")
        told = number + LIMIT * told
    return told


def parted(number):
    """The row that the number stands for, as a new list."""
    row = []
    rest = number
    # What is left at the end is the 1 of the empty row, so a last number 0 is not lost;
    # a box into which nothing was put holds 0, which stands for the empty row, too.
    while rest > 1:
        row.append(rest % LIMIT)
        rest = rest // LIMIT
    return row
