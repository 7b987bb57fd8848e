"""Letters between machines and clients (points 120 to 122)."""

from oathledger.blocks import is_block
from oathledger.errors import BadLetter
from oathledger.limits import MOST_ANSWER, MOST_NUMBER, MOST_TEXT
from oathledger.requests import is_client, is_command, is_number
from oathledger.texts import is_integer, is_short


def holds_vouch(parts):
    """Tell whether these are the parts of a vouch, behind its kind."""
    return len(parts) == 1 and is_command(parts[0])


def holds_block(parts):
    """Tell whether these are the parts of a proposal, a vote or a ready message."""
    return len(parts) == 1 and is_block(parts[0])


def holds_claim(parts):
    """Tell whether these are the parts of a claim."""
    return len(parts) == 1 and is_integer(parts[0], 0, MOST_NUMBER)


def holds_give(parts):
    """Tell whether these are the parts of a give message."""
    if len(parts) != 2 or not is_block(parts[1]):
        return False
    height = parts[1][2]
    return is_integer(parts[0], height, height)


def holds_request(parts):
    """Tell whether these are the parts of a command that a client sends."""
    return len(parts) == 2 and is_number(parts[0]) and is_short(parts[1], MOST_TEXT)


def holds_answer(parts):
    """Tell whether these are the parts of an answer."""
    return len(parts) == 2 and is_number(parts[0]) and is_short(parts[1], MOST_ANSWER)


FORMS = {
    "vouch": holds_vouch,
    "propose": holds_block,
    "vote": holds_block,
    "ready": holds_block,
    "claim": holds_claim,
    "give": holds_give,
    "command": holds_request,
    "answer": holds_answer,
}


def is_letter(value):
    """Tell whether the value is a letter, whoever sends it."""
    if not isinstance(value, tuple) or len(value) == 0:
        return False
    if not isinstance(value[0], str) or value[0] not in FORMS:
        return False
    holds = FORMS[value[0]]
    return holds(value[1:])


def route(letter):
    """Return "machine", "to_machine" or "to_client"."""
    if not is_letter(letter):
        raise BadLetter()
    if letter[0] == "command":
        return "to_machine"
    if letter[0] == "answer":
        return "to_client"
    return "machine"


def check_letter(group, sender, receiver, letter):
    """Return the letter if it can go from the sender to the receiver."""
    way = route(letter)
    if way == "to_machine":
        fits = is_client(sender) and group.is_member(receiver)
    elif way == "to_client":
        fits = group.is_member(sender) and is_client(receiver)
    else:
        fits = group.is_member(sender) and group.is_member(receiver)
    if not fits:
        raise BadLetter()
    return letter
