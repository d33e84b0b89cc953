"""Boxes, each of which holds one number."""

from stillhands.errors import NoBox


class Boxes:
    """So many boxes, counted from 0; each holds 0 at first."""

    def __init__(self, many):
        self._numbers = [0] * many

    def take(self, place):
        """The number that the box holds; it stays there."""
        self._need(place)
        return self._numbers[place]

    def put(self, place, number):
        """Let the box hold the number."""
        self._need(place)
        self._numbers[place] = number

    def _need(self, place):
        # A list would take a place below 0 as one counted from its end.
        if place < 0 or place >= len(self._numbers):
            raise NoBox("there is no such box")
