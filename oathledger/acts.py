"""The acts of a schedule, whatever the world is (points 608 and 611)."""

from oathledger.errors import BadSchedule
from oathledger.limits import MOST_NUMBER
from oathledger.texts import is_integer

MOST_TICKS = 1000
# What the items of each kind of act are, behind the kind itself.
ITEMS = {
    "tick": ("ticks",),
    "submit": ("client", "text"),
    "deliver": ("position",),
    "round": (),
    "calm": ("ticks",),
    "lose": ("position",),
    "double": ("position",),
    "move": ("position",),
    "say": ("sender", "receiver", "letter"),
    "arm": ("machine", "count"),
    "crash": ("machine",),
    "restart": ("machine", "keep"),
}


def check_act(act):
    """Raise BadSchedule if the value is not an act, or if one of its numbers is out of range."""
    if not isinstance(act, tuple) or len(act) == 0 or not isinstance(act[0], str) or act[0] not in ITEMS:
        raise BadSchedule(0, "act")
    kinds = ITEMS[act[0]]
    if len(act) != len(kinds) + 1:
        raise BadSchedule(0, "act")
    for kind, item in zip(kinds, act[1:]):
        if kind == "ticks" and not is_integer(item, 1, MOST_TICKS):
            raise BadSchedule(0, "number")
        if kind in ("position", "count", "keep") and not is_integer(item, 0, MOST_NUMBER):
            raise BadSchedule(0, "number")


def survivors(keep, count):
    """Return for each of that many pending writes whether it survives: the binary digits of keep, the lowest first."""
    flags = []
    for _ in range(count):
        flags.append(keep % 2 == 1)
        keep = keep // 2
    return flags
