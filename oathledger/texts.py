"""Plain values and their canonical texts (points 101 and 107 to 112)."""

from oathledger.errors import BadText
from oathledger.limits import MOST_DEPTH, MOST_DIGITS, MOST_LENGTH

CONSTANTS = {"n": None, "y": True, "z": False}


def is_integer(value, least, greatest):
    """Tell whether the value is an integer from least to greatest; True and False are none."""
    return isinstance(value, int) and not isinstance(value, bool) and least <= value <= greatest


def is_printable(value):
    """Tell whether the value is a printable string."""
    if not isinstance(value, str) or not value.isascii() or not value.isprintable():
        return False
    # The character with code 37 cannot stand in a string here, so it is asked whether dropping it shortens the value.
    return len(value.translate({37: None})) == len(value)


def is_short(value, most):
    """Tell whether the value is a printable string of at most that many characters."""
    return is_printable(value) and len(value) <= most


def is_decimal(word):
    """Tell whether the string is a number in decimal digits, without a sign and without a leading zero."""
    return word.isascii() and word.isdigit() and (word == "0" or word[0] != "0")


def integer_of(word, most):
    """Return the integer that the string writes in at most that many decimal digits, or None."""
    digits = word[1:] if word.startswith("-") else word
    if len(digits) > most or not is_decimal(digits) or word == "-0":
        return None
    return int(word)


def encode(value):
    """Return the canonical text of a plain value."""
    return text_of(value, MOST_DEPTH, MOST_LENGTH)


def text_length(value):
    """Return the length of the canonical text of a plain value."""
    return len(encode(value))


def text_of(value, depth, room):
    """Return the text of a value that may be nested to the depth, if the text fits into the room."""
    if isinstance(value, tuple):
        text = tuple_text(value, depth, room)
    else:
        text = single_text(value)
    if len(text) > room:
        raise BadText()
    return text


def tuple_text(value, depth, room):
    """Return the text of a tuple; it may be too long for the room."""
    if depth == 0:
        raise BadText()
    texts = [f"t{len(value)}:"]
    room = room - len(texts[0])
    for item in value:
        # Each item gets the room that is left: a tuple that holds another one many times is given up soon.
        text = text_of(item, depth - 1, room)
        texts.append(text)
        room = room - len(text)
    return "".join(texts)


def single_text(value):
    """Return the text of a value that is not a tuple."""
    if value is None:
        return "n"
    if value is True:
        return "y"
    if value is False:
        return "z"
    if has_few_digits(value):
        return f"i{value};"
    if is_printable(value):
        return f"s{len(value)}:{value}"
    raise BadText()


def has_few_digits(value):
    """Tell whether the value is an integer with at most MOST_DIGITS digits."""
    # A digit needs less than 4 bits. The bits are asked first, because Python does not write out huge integers.
    if not isinstance(value, int) or value.bit_length() > 4 * MOST_DIGITS:
        return False
    return len(str(abs(value))) <= MOST_DIGITS


def decode(text):
    """Return the value whose canonical text is the text."""
    value, end = read_value(text, 0)
    if end != len(text):
        raise BadText()
    return value


def read_value(text, start):
    """Return the value whose canonical text begins at the index, and the index after that text."""
    if not isinstance(text, str) or not is_integer(start, 0, len(text)):
        raise BadText()
    return value_at(text, start, min(len(text), start + MOST_LENGTH), MOST_DEPTH)


def value_at(text, start, end, depth):
    """Read a value that may be nested to the depth from the characters before the end."""
    if start >= end:
        raise BadText()
    mark = text[start]
    if mark in CONSTANTS:
        return CONSTANTS[mark], start + 1
    if mark == "i":
        return integer_at(text, start + 1, end)
    if mark == "s":
        return string_at(text, start + 1, end)
    if mark == "t" and depth > 0:
        return tuple_at(text, start + 1, end, depth)
    raise BadText()


def number_at(text, start, end, mark):
    """Read decimal digits and the mark behind them."""
    stop = text.find(mark, start, min(end, start + MOST_DIGITS + 1))
    if stop < 0 or not is_decimal(text[start:stop]):
        raise BadText()
    return int(text[start:stop]), stop + 1


def integer_at(text, start, end):
    """Read what stands behind the i of an integer."""
    if not text.startswith("-", start, end):
        return number_at(text, start, end, ";")
    number, after = number_at(text, start + 1, end, ";")
    if number == 0:
        raise BadText()
    return -number, after


def string_at(text, start, end):
    """Read what stands behind the s of a string."""
    length, first = number_at(text, start, end, ":")
    after = first + length
    if after > end or not is_printable(text[first:after]):
        raise BadText()
    return text[first:after], after


def tuple_at(text, start, end, depth):
    """Read what stands behind the t of a tuple."""
    count, after = number_at(text, start, end, ":")
    items = []
    for _ in range(count):
        item, after = value_at(text, after, end, depth - 1)
        items.append(item)
    return tuple(items), after
