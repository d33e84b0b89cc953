"""Pictures: what a hand does next with what it took from a picture's boxes.

A box holds the row [puts, cell] and a view behind them: how often its hand has put,
its cell, and what its hand saw just ahead of that put. A view is the row [moment] and
all cells behind it; its moment is how many puts all hands together had done by then.
Sums and tops are pictures, too: of what each hand added in all, and of its own top.
Outcomes are told as in stillhands/counters.py; the mark is the moment of the view.
"""

from stillhands.packing import packed, parted

VIEW = 2


def picture_outcome(deed, hand, readings):
    """The outcome for the hand, which took these readings of all boxes since the deed began."""
    view = _view(readings)
    if view is None:
        return None
    moment = view[0]
    cells = view[1:]
    word = deed[0]
    if word == "look":
        return (None, tuple(cells), moment)
    if word == "sum":
        return (None, sum(cells), moment)
    if word == "top":
        return (None, max(cells), moment)
    own = _row(readings[-1][hand])
    return (packed([own[0] + 1, _cell_behind(deed, own[1])] + view), None, None)


def _view(readings):
    """A view of a moment since the readings began, or None where they show none yet."""
    if len(readings) < 2:
        return None
    last = [_row(number) for number in readings[-1]]
    if readings[-1] == readings[-2]:
        return [sum([row[0] for row in last])] + [row[1] for row in last]
    for hand in range(len(last)):
        # The first of two puts was behind the beginning of the readings, and what
        # the hand saw ahead of the second one was seen behind the first.
        if last[hand][0] - _row(readings[0][hand])[0] >= 2:
            return last[hand][VIEW:]
    return None


def _row(number):
    # A box into which nothing was put holds no row yet.
    return parted(number) or [0, 0]


def _cell_behind(deed, cell):
    if deed[0] == "add":
        return cell + deed[1]
    if deed[0] == "raise":
        return max(cell, deed[1])
    return deed[1]
