"""One hand: its plan, the deed that it has underway, and what it keeps for itself."""

from stillhands.counters import counter_outcome
from stillhands.deeds import COUNTER, LINE, THING_OF
from stillhands.lines import line_outcome
from stillhands.pictures import picture_outcome


class Hand:
    """A hand that does the deeds of its plan one behind another, step by step.

    A deed takes from all boxes of its thing, once or again and again, until it has
    an outcome: then it has ended, or it puts one number and has ended with that.
    So nothing that another hand could take is changed ahead of a deed's end.
    """

    def __init__(self, hand, plan, many):
        self._hand = hand
        self._plan = plan
        self._many = many
        self._ended = 0
        self._ones = 0
        self._took = [0] * many
        self._begin = 0
        self._outcome = None
        self._reading = []
        self._readings = []
        self.steps = 0

    def is_through(self):
        """Whether the plan is at its end."""
        return self._ended == len(self._plan)

    def step(self, boxes, now):
        """Do the step of that number: its touch, and (record, mark) of a deed that it ended, or None."""
        deed = self._plan[self._ended]
        if self.steps == 0:
            self._begin = now
            self._readings = []
            self._outcome = self._outcome_of(deed)
        self.steps += 1
        first = THING_OF[deed[0]] * self._many
        if self._outcome is not None:
            number = self._outcome[0]
            boxes.put(first + self._hand, number)
            return (self._hand, "put", first + self._hand, number), self._end(deed, now)
        place = first + len(self._reading)
        number = boxes.take(place)
        self._keep(number, deed)
        touch = (self._hand, "take", place, number)
        if self._outcome is None or self._outcome[0] is not None:
            return touch, None
        return touch, self._end(deed, now)

    def _keep(self, number, deed):
        self._reading.append(number)
        if len(self._reading) == self._many:
            self._readings.append(self._reading)
            self._reading = []
            self._outcome = self._outcome_of(deed)

    def _outcome_of(self, deed):
        thing = THING_OF[deed[0]]
        if thing == COUNTER:
            return counter_outcome(deed, self._ones, self._readings)
        if thing == LINE:
            return line_outcome(deed, self._hand, self._took, self._readings)
        return picture_outcome(deed, self._hand, self._readings)

    def _end(self, deed, now):
        answer = self._outcome[1]
        mark = self._outcome[2]
        if deed[0] == "one":
            self._ones += 1
        if deed[0] == "take" and mark is not None:
            self._took[mark[0]] += 1
        self._ended += 1
        self.steps = 0
        return (self._hand, deed, self._begin, now, answer), mark
