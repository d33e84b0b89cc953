"""Plans and weavings for the tests, the same ones in each run."""

from random import Random

from stillhands.hall import Hall

KINDS = {
    "all": ("one", "count", "set", "look", "add", "sum", "raise", "top", "give", "take"),
    "counter": ("one", "count"),
    "picture": ("set", "look"),
    "sums": ("add", "sum"),
    "tops": ("raise", "top"),
    "line": ("give", "take", "take"),
    "givers": ("give", "give", "give", "take"),
}
NUMBERED = ("set", "add", "raise", "give")
WAYS = ("any", "long", "seldom", "still", "turns")


def any_deed(chance, words, hand, numbers):
    word = chance.choice(words)
    if word == "take" and hand != 0:
        word = "give"
    return (word, chance.choice(numbers)) if word in NUMBERED else (word,)


def any_plans(chance, kind, many, most):
    # Few numbers make alike answers, and with them what only looks right, more likely.
    numbers = chance.choice(((1, 2), (0, 1, 2, 3), tuple(range(1000)), (0, 999)))
    return [
        [any_deed(chance, KINDS[kind], hand, numbers) for _ in range(chance.randrange(most // 2, most + 1))]
        for hand in range(many)
    ]


def any_row(chance, way, many, length):
    """A row of hands: whose step is next, and next, and so on."""
    if way == "turns":
        first = chance.randrange(many)
        return [(first + k) % many for k in range(length)]
    if way == "any":
        return [chance.randrange(many) for _ in range(length)]
    if way == "long":
        row = []
        while len(row) < length:
            row.extend([chance.randrange(many)] * chance.randrange(1, 30))
        return row
    if way == "seldom":
        weights = [chance.choice((1, 3, 40)) for _ in range(many)]
        return chance.choices(range(many), weights, k=length)
    # "still": from some step of its own on, a hand stands still for ever.
    last = [chance.choice((chance.randrange(60), length)) for _ in range(many)]
    row = []
    for hand in any_row(chance, chance.choice(("any", "long", "seldom")), many, length):
        if last[hand] > 0:
            last[hand] -= 1
            row.append(hand)
    return row


def many_cases(seed, rounds, most, length):
    """(label, plans, row) for each kind, each way and one to four hands, so many rounds of them."""
    for turn in range(rounds):
        for kind in KINDS:
            for way in WAYS:
                for many in (1, 2, 3, 4):
                    # A seed that is a text is the same in every run.
                    chance = Random(f"{seed} {turn} {kind} {way} {many}")
                    plans = any_plans(chance, kind, many, most)
                    yield f"{seed} {turn} {kind} {way} {many}", plans, any_row(chance, way, many, length)


def woven(plans, row):
    hall = Hall(plans)
    hall.weave(row)
    return hall


def ended(plans):
    """A hall in which each hand did its whole plan, hand 0 first."""
    hall = Hall(plans)
    finish(hall, len(plans))
    return hall


def finish(hall, many):
    for hand in range(many):
        while hall.step(hand):
            pass


def all_rows(counts):
    """All weavings in which each hand does so many steps."""
    if not any(counts):
        yield []
    for hand, count in enumerate(counts):
        if count:
            for rest in all_rows(counts[:hand] + (count - 1,) + counts[hand + 1:]):
                yield [hand] + rest


def answers(hall):
    return [record[4] for record in hall.records()]
