"""The statements and the words of command texts (points 401, 403 and 405)."""

from oathledger.errors import BadCommand
from oathledger.limits import MOST_TEXT
from oathledger.texts import is_decimal, is_printable, is_short

LETTERS = "abcdefghijklmnopqrstuvwxyz"
KEY_CHARACTERS = "abcdefghijklmnopqrstuvwxyz.0123456789"
MOST_NAME = 12
MOST_KEY = 20
MOST_VALUE = 40
MOST_AMOUNT = 12


def statements(text):
    """Return the statements of a text as lists of words."""
    return [words_of(part, index) for index, part in enumerate(parts_of(text))]


def parts_of(text):
    """Return the texts of the statements, which are not checked yet."""
    if len(text) > MOST_TEXT:
        raise BadCommand("long", 0)
    if not is_printable(text):
        raise BadCommand("character", 0)
    return text.split(";")


def words_of(part, index):
    """Return the words of the statement with this index."""
    if part == "":
        raise BadCommand("empty", index)
    words = part.split(" ")
    # There is an empty word before or behind a space at an end, and between two spaces side by side.
    if "" in words:
        raise BadCommand("space", index)
    return words


def is_name(word):
    """Tell whether the string is the name of an account."""
    return consists_of(word, LETTERS, MOST_NAME)


def is_key(word):
    """Tell whether the string is a key."""
    return consists_of(word, KEY_CHARACTERS, MOST_KEY)


def is_value(word):
    """Tell whether the string is a value."""
    return word != "" and " " not in word and ";" not in word and is_short(word, MOST_VALUE)


def is_amount(word):
    """Tell whether the string is an amount."""
    return len(word) <= MOST_AMOUNT and is_decimal(word)


def consists_of(word, characters, most):
    """Tell whether the string has at least one and at most that many characters, all of them among these."""
    return 1 <= len(word) <= most and all([character in characters for character in word])
