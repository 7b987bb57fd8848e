"""Command texts and the statements that they stand for (points 402, 404 and 405)."""

from oathledger.errors import BadCommand
from oathledger.tokens import is_amount, is_key, is_name, is_value, parts_of, words_of

# The arguments of each verb. A kind of argument is also the reason of the error where an argument is not of this kind.
VERBS = {
    "open": ("name",),
    "close": ("name",),
    "issue": ("name", "amount"),
    "burn": ("name", "amount"),
    "pay": ("name", "name", "amount"),
    "balance": ("name",),
    "atleast": ("name", "amount"),
    "hold": ("name", "name", "amount", "key"),
    "settle": ("key",),
    "release": ("key",),
    "put": ("key", "value"),
    "get": ("key",),
    "drop": ("key",),
    "swap": ("key", "value", "value"),
    "same": ("key", "value"),
    "keys": ("key",),
}


def parse_command(text):
    """Return the list of the statements of a command text."""
    # Each statement is checked as a whole before the next one is looked at.
    return [parse_statement(part, index) for index, part in enumerate(parts_of(text))]


def parse_statement(part, index):
    """Return the statement with this index."""
    words = words_of(part, index)
    if words[0] not in VERBS:
        raise BadCommand("verb", index)
    kinds = VERBS[words[0]]
    if len(words) != len(kinds) + 1:
        raise BadCommand("count", index)
    arguments = [parse_argument(kind, word, index) for kind, word in zip(kinds, words[1:])]
    return tuple([words[0]] + arguments)


def parse_argument(kind, word, index):
    """Return the argument of this kind in the statement with this index."""
    if not is_of_kind(kind, word):
        raise BadCommand(kind, index)
    if kind == "amount":
        return int(word)
    return word


def is_of_kind(kind, word):
    """Tell whether the word is an argument of this kind."""
    if kind == "name":
        return is_name(word)
    if kind == "amount":
        return is_amount(word)
    if kind == "key":
        return is_key(word)
    return is_value(word)


def command_text(parsed):
    """Return the text of a list of statements."""
    return ";".join([" ".join([str(part) for part in statement]) for statement in parsed])
