"""The five things once more, written apart from the package, to judge it by."""


class Things:
    """What Plain must do, with lists that are changed."""

    def __init__(self, many):
        self.counted = 0
        self.cells = [0] * many
        self.added = []
        self.raised = [0]
        self.gifts = []

    def done(self, hand, deed):
        word = deed[0]
        if word == "one":
            self.counted += 1
        elif word == "count":
            return self.counted
        elif word == "set":
            self.cells[hand] = deed[1]
        elif word == "look":
            return tuple(self.cells)
        elif word == "add":
            self.added.append(deed[1])
        elif word == "sum":
            return sum(self.added)
        elif word == "raise":
            self.raised.append(deed[1])
        elif word == "top":
            return max(self.raised)
        elif word == "give":
            self.gifts.append(deed[1])
        elif word == "take":
            return self.gifts.pop(0) if self.gifts else None
        else:
            raise AssertionError(deed)
        return None


def alike(one, other):
    return type(one) is type(other) and one == other


def fault(records, order, many):
    """What is wrong with the order, in words, or None."""
    if sorted(order) != list(range(len(records))):
        return f"not each place once: {order}"
    things = Things(many)
    for at, place in enumerate(order):
        hand, deed, _, end, answer = records[place]
        told = things.done(hand, deed)
        if not alike(told, answer):
            return f"place {place}, {deed} of hand {hand}: {answer!r} was told, {told!r} is right here"
        for ahead in order[:at]:
            if records[ahead][2] > end:
                return f"place {place} ended ahead of the beginning of {ahead}, and stands behind it"
    return None


def limit(deed, many):
    """The table of the greatest counts of steps, written out."""
    table = {
        "one": (1, 1, 1, 1),
        "count": (1, 2, 3, 4),
        "look": (2, 6, 12, 20),
        "sum": (2, 6, 12, 20),
        "top": (2, 6, 12, 20),
        "set": (3, 7, 13, 21),
        "add": (3, 7, 13, 21),
        "raise": (3, 7, 13, 21),
        "give": (2, 3, 4, 5),
        "take": (2, 4, 6, 8),
    }
    return table[deed[0]][many - 1]
