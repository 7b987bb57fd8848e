"""Values that several tests use."""

PERCENT = chr(37)


class Odd:
    """An object that compares badly: a function that looks at its kind first never asks it."""

    def __eq__(self, other):
        raise AssertionError("compared")

    def __hash__(self):
        raise AssertionError("hashed")


# Values that are no tuples, no strings and no integers.
STRANGE = [None, True, False, 1.0, 0.5, b"a", [], [1], {}, {1: 2}, {1}, object(), Odd(), Odd, len]


def block(epoch, parent=0, height=None, commands=()):
    """A block; on genesis if the parent is not given, and else with the least height."""
    if height is None:
        height = 1 if parent == 0 else 2
    return (epoch, parent, height, commands)


def nest(depth, inner=()):
    """A tuple of that nesting depth around an inner tuple."""
    value = inner
    for _ in range(depth - 1):
        value = (value,)
    return value


def with_part(value, at, part):
    """The tuple with another part at an index."""
    return value[:at] + (part,) + value[at + 1:]
