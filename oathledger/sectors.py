"""The texts of the sectors of a journal (points 206 and 207)."""

from oathledger.disk import SECTOR_SIZE
from oathledger.texts import is_decimal

PIECE_SIZE = 40


def format_head(generation, area):
    """Return the text of a head."""
    return f"H {generation} {area}"


def format_piece(generation, place, left, payload):
    """Return the text of a piece."""
    return f"P {generation} {place} {left} {payload}"


def parse_sector(text):
    """Return the head or the piece that the text of a sector has the form of, or None."""
    if len(text) > SECTOR_SIZE:
        return None
    if text.startswith("H "):
        return parse_head(text.split(" "))
    # A payload may contain spaces, also at its beginning.
    return parse_piece(text.split(" ", 4))


def parse_head(words):
    """Return the head with these words, or None."""
    if len(words) != 3 or not is_generation(words[1]) or words[2] not in ("0", "1"):
        return None
    return "head", int(words[1]), int(words[2])


def parse_piece(words):
    """Return the piece with these words, the last of which is the payload, or None."""
    if len(words) != 5 or words[0] != "P" or not is_generation(words[1]):
        return None
    if not is_decimal(words[2]) or not is_decimal(words[3]) or not 1 <= len(words[4]) <= PIECE_SIZE:
        return None
    return "piece", int(words[1]), int(words[2]), int(words[3]), words[4]


def is_generation(word):
    """Tell whether the word is the number of a generation."""
    return is_decimal(word) and word != "0"


def cut(text):
    """Return the payloads of a text."""
    return [text[at:at + PIECE_SIZE] for at in range(0, len(text), PIECE_SIZE)]
