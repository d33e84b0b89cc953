"""The order in which the deeds that have ended could have been done at once.

Each deed gets a key (step, rank, place): a step from its first to its last one at which
it could have been done at once, and its rank among those of the same step. Records come in
the order in which the deeds ended; marks are what stillhands/hands.py tells beside them.
"""

from stillhands.deeds import LINE, THING_OF, THINGS

TELLING = ("count", "look", "sum", "top")


def told_order(records, marks):
    """The places of all records, in such an order."""
    keys = _line_keys(records, marks)
    changes = [[] for _ in range(THINGS)]
    for place in range(len(records)):
        hand, deed, begin, end, answer = records[place]
        thing = THING_OF[deed[0]]
        if deed[0] in TELLING:
            keys.append((_moment(begin, changes[thing], marks[place]), 1, place))
        elif thing != LINE:
            changes[thing].append(end)
            keys.append((end, 0, place))
    return [key[2] for key in sorted(keys)]


def _moment(begin, changes, moment):
    """The step behind which an answer holds that is true from the put of that number on."""
    if moment == 0:
        return begin
    return max(begin, changes[moment - 1])


def _line_keys(records, marks):
    """Keys for gives and takes.

    A take is done at its last step, or at its first one where it told None: then all
    gifts that had been put were taken before.
    """
    keys = []
    for place in range(len(records)):
        if records[place][1][0] == "take":
            at = 2 if marks[place] is None else 3
            keys.append((records[place][at], 0, place))
    sequence = _gives(records, marks)
    # A give is done at its own end or, if that is earlier, at the end of one that must
    # stand behind it: not earlier, or it would be ahead of a take that told None.
    step = None
    for rank in reversed(range(len(sequence))):
        end = records[sequence[rank]][3]
        step = end if step is None else min(step, end)
        keys.append((step, rank, sequence[rank]))
    return keys


def _gives(records, marks):
    """The places of all gives: those whose gifts were told, as they were, and then all others."""
    place_of = {}
    for place in range(len(records)):
        if records[place][1][0] == "give":
            place_of[marks[place]] = place
    told = []
    for place in range(len(records)):
        if records[place][1][0] == "take" and marks[place] is not None:
            told.append(place_of.pop(marks[place]))
    return told + list(place_of.values())
