"""The five things where each deed is done at once."""

from stillhands.states import answer_in, first_state, state_behind


class Plain:
    """The five things for so many hands."""

    def __init__(self, many):
        self._state = first_state(many)

    def done(self, hand, deed):
        """Do the deed at once, and tell its answer."""
        answer = answer_in(self._state, deed)
        self._state = state_behind(self._state, hand, deed)
        return answer
