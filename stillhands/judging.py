"""Judging: whether deeds that took their time could have been done at once, in an order."""

from stillhands.errors import NoDeed
from stillhands.states import answer_in, first_state, state_behind

MOST_RECORDS = 10


def keeps(records, order, many):
    """Whether the records could have been done at once in this order of their places."""
    if sorted(order) != list(range(len(records))):
        return False
    state = first_state(many)
    latest = None
    for place in order:
        hand, deed, begin, end, answer = records[place]
        if latest is not None and latest > end:
            return False
        if answer_in(state, deed) != answer:
            return False
        latest = begin if latest is None else max(latest, begin)
        state = state_behind(state, hand, deed)
    return True


def found_order(records, many):
    """An order that keeps up to ten records, or None where there is none."""
    if len(records) > MOST_RECORDS:
        raise NoDeed("there are more than ten records")
    return _completed(records, [], first_state(many), {})


def _completed(records, order, state, dead):
    """The order with all other places behind it, or None; dead has what was found to lead nowhere."""
    if len(order) == len(records):
        return order
    left = [place for place in range(len(records)) if place not in order]
    state = _shortened(records, left, state)
    key = (tuple(left), state)
    if key in dead:
        return None
    first_end = min([records[place][3] for place in left])
    for place in left:
        hand, deed, begin, end, answer = records[place]
        if begin <= first_end and answer_in(state, deed) == answer:
            found = _completed(records, order + [place], state_behind(state, hand, deed), dead)
            if found is not None:
                return found
    dead[key] = True
    return None


def _shortened(records, left, state):
    """The state with no more gifts in the line than takes are left."""
    # No take comes to the other gifts, so without them more states are alike.
    counted, cells, added, top, line = state
    takes = len([place for place in left if records[place][1][0] == "take"])
    return (counted, cells, added, top, line[:takes])
