"""Schedules: worlds and their acts as lines of text (points 614 to 616)."""

from oathledger.acts import ITEMS, check_act
from oathledger.errors import BadSchedule, BadText
from oathledger.letters import is_letter
from oathledger.texts import decode, encode, integer_of, is_integer, is_printable
from oathledger.world import World

MOST_DIGITS_OF_LINE = 12
GREATEST = 10 ** 12 - 1


def parse_schedule(text):
    """Return the line of the world, its sizes, its liars and the acts with their lines."""
    head = None
    acts = []
    for number, line in enumerate(text.split("\n"), start=1):
        if not is_printable(line):
            raise BadSchedule(number, "character")
        if line == "" or line.startswith("#"):
            continue
        is_world = line.split(" ")[0] == "world"
        if is_world != (head is None):
            raise BadSchedule(number, "world")
        if is_world:
            head = (number,) + parse_world(number, line)
        else:
            acts.append((number, parse_act(number, line)))
    if head is None:
        raise BadSchedule(0, "world")
    return head + (acts,)


def parse_world(number, line):
    """Return the faults, the clients, the sectors and the liars of a line with this number."""
    words = line.split(" ")[1:]
    if len(words) not in (3, 4):
        raise BadSchedule(number, "count")
    faults, clients, sectors = [parse_integer(number, "count", word) for word in words[:3]]
    liars = []
    if len(words) == 4:
        liars = [parse_integer(number, "machine", word) for word in words[3].split(",")]
    if any([before >= after for before, after in zip(liars, liars[1:])]):
        raise BadSchedule(number, "number")
    return faults, clients, sectors, liars


def parse_act(number, line):
    """Return the act of a line with this number."""
    verb = line.split(" ")[0]
    if verb not in ITEMS:
        raise BadSchedule(number, "verb")
    kinds = ITEMS[verb]
    words = words_of(line, kinds)
    if len(words) != len(kinds):
        raise BadSchedule(number, "count")
    items = [parse_item(number, kind, word) for kind, word in zip(kinds, words)]
    return tuple([verb] + items)


def words_of(line, kinds):
    """Return the words of a line behind its verb; a text and a letter take the rest of the line."""
    if "text" in kinds or "letter" in kinds:
        return line.split(" ", len(kinds))[1:]
    return line.split(" ")[1:]


def parse_item(number, kind, word):
    """Return the item of this kind in the line with this number."""
    if kind == "text":
        return word
    if kind == "letter":
        return parse_letter(number, word)
    return parse_integer(number, kind, word)


def parse_integer(number, kind, word):
    """Return the integer of this kind in the line with this number."""
    value = integer_of(word, MOST_DIGITS_OF_LINE)
    least, greatest = bounds_of(kind)
    if value is None or not least <= value <= greatest:
        raise BadSchedule(number, "number")
    return value


def parse_letter(number, word):
    """Return the letter in the line with this number."""
    try:
        letter = decode(word)
    except BadText:
        raise BadSchedule(number, "letter") from None
    if not is_letter(letter):
        raise BadSchedule(number, "letter")
    return letter


def bounds_of(kind):
    """Return the least and the greatest integer that a line can hold for this kind of item."""
    # Only clients have a sign, and they always have one.
    if kind == "client":
        return -GREATEST, -1
    if kind == "receiver":
        return -GREATEST, GREATEST
    return 0, GREATEST


def act_line(act):
    """Return the line of an act."""
    # Whatever is wrong with an act, it has no line.
    try:
        check_act(act)
    except BadSchedule:
        raise BadSchedule(0, "act") from None
    words = [act[0]]
    for kind, item in zip(ITEMS[act[0]], act[1:]):
        if not has_word(kind, item):
            raise BadSchedule(0, "act")
        words.append(word_of(kind, item))
    return " ".join(words)


def has_word(kind, item):
    """Tell whether a line can hold the item of this kind."""
    if kind == "text":
        return is_printable(item)
    if kind == "letter":
        return is_letter(item)
    least, greatest = bounds_of(kind)
    return is_integer(item, least, greatest)


def word_of(kind, item):
    """Return what stands for the item in a line."""
    if kind == "letter":
        return encode(item)
    return str(item)


def run_schedule(text):
    """Return the world after a schedule."""
    line, faults, clients, sectors, liars, acts = parse_schedule(text)
    world = make_world(line, faults, liars, clients, sectors)
    for number, act in acts:
        perform(world, number, act)
    return world


def make_world(line, faults, liars, clients, sectors):
    """Return the new world of the line."""
    try:
        return World(faults, liars, clients, sectors)
    except BadSchedule as fault:
        raise BadSchedule(line, fault.reason) from None


def perform(world, number, act):
    """Perform the act of the line with this number."""
    try:
        world.act(act)
    except BadSchedule as fault:
        raise BadSchedule(number, fault.reason) from None
