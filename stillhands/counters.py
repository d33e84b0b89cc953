"""The counter: what a hand does next with what it took from the counter's boxes.

An outcome is (number, answer, mark): the number that is still to be put, or None
where the deed has ended; what the deed answers; and what the order needs to know
of it. It is None as long as all boxes must be taken (once more).
"""


def counter_outcome(deed, ones, readings):
    """The outcome for a hand that has counted so many ones itself."""
    if deed[0] == "one":
        return (ones + 1, None, None)
    if not readings:
        return None
    # Each one is counted by a put of its own, so the answer is also the mark:
    # how many puts had been done at the moment that the answer tells of.
    counted = sum(readings[-1])
    return (None, counted, counted)
