"""The line of gifts: what a hand does next with what it took from the line's boxes.

A box holds all gifts of its hand in a row, each with its stamp behind it. Outcomes are
told as in stillhands/counters.py; the mark is (hand, place) for the gift that was given
or told: whose it was, and how many that hand had given ahead of it.
"""

from stillhands.packing import packed, parted


def line_outcome(deed, hand, took, readings):
    """The outcome for the hand; took is how many of each hand's gifts were taken."""
    if not readings:
        return None
    rows = [parted(number) for number in readings[-1]]
    if deed[0] == "give":
        return _given(rows, hand, deed[1])
    if not _left(rows, took):
        return (None, None, None)
    # In one reading a gift may be seen while an earlier one, given behind the taking
    # of its own box, is missed; the second reading has it.
    if len(readings) < 2:
        return None
    least = min(_left(rows, took))
    giver = least[1]
    return (None, least[2], (giver, took[giver]))


def _given(rows, hand, gift):
    own = rows[hand]
    stamp = 1 + max([row[-1] for row in rows if row], default=0)
    return (packed(own + [gift, stamp]), None, (hand, len(own) // 2))


def _left(rows, took):
    """The first gift that is left of each hand that has one: (stamp, hand, gift)."""
    left = []
    for hand in range(len(rows)):
        place = 2 * took[hand]
        if place < len(rows[hand]):
            left.append((rows[hand][place + 1], hand, rows[hand][place]))
    return left
