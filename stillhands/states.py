"""What the five things hold, as one value that nothing changes.

A state is (counted, cells, added, top, line): how many were counted, the cells
of the picture, the sum, the top, and the gifts of the line, the first one first.
"""


def first_state(many):
    """The state ahead of all deeds, for so many hands."""
    return (0, (0,) * many, 0, 0, ())


def answer_in(state, deed):
    """What the deed answers where it is done at once."""
    counted, cells, added, top, line = state
    word = deed[0]
    if word == "count":
        return counted
    if word == "look":
        return cells
    if word == "sum":
        return added
    if word == "top":
        return top
    if word == "take" and line:
        return line[0]
    return None


def state_behind(state, hand, deed):
    """The state behind the deed, where it is done at once."""
    counted, cells, added, top, line = state
    word = deed[0]
    if word == "one":
        counted = counted + 1
    elif word == "set":
        cells = cells[:hand] + (deed[1],) + cells[hand + 1:]
    elif word == "add":
        added = added + deed[1]
    elif word == "raise":
        top = max(top, deed[1])
    elif word == "give":
        line = line + (deed[1],)
    elif word == "take":
        line = line[1:]
    return (counted, cells, added, top, line)
