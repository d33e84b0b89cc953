"""Deeds: which ones there are, and how many steps each has at the most."""

from stillhands.errors import NoDeed

COUNTER = 0
PICTURE = 1
SUMS = 2
TOPS = 3
LINE = 4
THINGS = 5

# The numbers are those of the names above.
THING_OF = {
    "one": 0,
    "count": 0,
    "set": 1,
    "look": 1,
    "add": 2,
    "sum": 2,
    "raise": 3,
    "top": 3,
    "give": 4,
    "take": 4,
}

WITH_A_NUMBER = ("set", "add", "raise", "give")
GREATEST = 999


def need_deed(deed, hand):
    """Refuse what is no deed, and a take of another hand than 0."""
    if len(deed) == 0 or deed[0] not in THING_OF:
        raise NoDeed("there is no such deed")
    if deed[0] in WITH_A_NUMBER:
        _need_number(deed)
    elif len(deed) > 1:
        raise NoDeed("this deed has no number")
    if deed[0] == "take" and hand != 0:
        raise NoDeed("hand 0 alone takes")


def _need_number(deed):
    if len(deed) != 2:
        raise NoDeed("this deed has one number")
    # The message leaves the number out: Python itself fails to write very long ones.
    if deed[1] < 0 or deed[1] > GREATEST:
        raise NoDeed("the number is below 0 or above 999")


def most_steps(deed, many):
    """How many steps the deed has at the most, among so many hands."""
    word = deed[0]
    if word == "one":
        return 1
    if word == "count":
        return many
    if word == "give":
        return many + 1
    if word == "take":
        return 2 * many
    scan = many * (many + 1)
    if word in ("look", "sum", "top"):
        return scan
    return scan + 1
