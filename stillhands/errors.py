"""The refusals of the package."""


class HandsError(ValueError):
    """Any refusal."""


class NoNumber(HandsError):
    """A number is not one that a row may hold."""


class NoBox(HandsError):
    """There is no such box."""


class NoHand(HandsError):
    """There is no such hand, or there are too few or too many hands."""


class NoDeed(HandsError):
    """There is no such deed, or there are too many deeds."""
