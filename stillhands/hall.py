"""A hall: hands that do their plans, step by step, woven in any way."""

from stillhands.boxes import Boxes
from stillhands.deeds import THINGS, need_deed
from stillhands.errors import NoDeed, NoHand
from stillhands.hands import Hand
from stillhands.ordering import told_order

MOST_HANDS = 4
MOST_DEEDS = 40


class Hall:
    """A hall with one hand for each plan."""

    def __init__(self, plans):
        _need_plans(plans)
        many = len(plans)
        self._boxes = Boxes(THINGS * many)
        self._hands = [Hand(hand, list(plans[hand]), many) for hand in range(many)]
        self._records = []
        self._marks = []
        self._touches = []

    def step(self, hand):
        """One step of the hand: True, or False where its plan is at its end."""
        self._need(hand)
        mover = self._hands[hand]
        if mover.is_through():
            return False
        touch, ended = mover.step(self._boxes, len(self._touches))
        self._touches.append(touch)
        if ended is not None:
            self._records.append(ended[0])
            self._marks.append(ended[1])
        return True

    def weave(self, row):
        """A step for each hand of the row, in order: how many steps were done."""
        for hand in row:
            self._need(hand)
        done = 0
        for hand in row:
            if self.step(hand):
                done += 1
        return done

    def steps_of(self, hand):
        """How many steps the hand has done of its deed underway, 0 for none."""
        self._need(hand)
        return self._hands[hand].steps

    def records(self):
        """(hand, deed, begin, end, answer) of each deed that has ended, in the order of their ends."""
        return list(self._records)

    def order(self):
        """The places of all records, as the deeds could have been done at once."""
        return told_order(self._records, self._marks)

    def touches(self):
        """(hand, word, place, number) of each step."""
        return list(self._touches)

    def _need(self, hand):
        if hand < 0 or hand >= len(self._hands):
            raise NoHand("there is no such hand")


def _need_plans(plans):
    if len(plans) == 0 or len(plans) > MOST_HANDS:
        raise NoHand("there are one to four hands")
    for hand in range(len(plans)):
        if len(plans[hand]) > MOST_DEEDS:
            raise NoDeed("a plan has up to forty deeds")
        for deed in plans[hand]:
            need_deed(deed, hand)
