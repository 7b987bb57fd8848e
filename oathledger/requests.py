"""Commands, lists of commands and the last numbers of clients (points 113 to 115)."""

from oathledger.limits import MOST_CLIENTS, MOST_NUMBER, MOST_TEXT
from oathledger.texts import is_integer, is_short


def is_client(value):
    """Tell whether the value is a client."""
    return is_integer(value, -MOST_CLIENTS, -1)


def is_number(value):
    """Tell whether the value is the number of a command."""
    return is_integer(value, 1, MOST_NUMBER)


def is_command(value):
    """Tell whether the value is a command."""
    if not isinstance(value, tuple) or len(value) != 3:
        return False
    client, number, text = value
    return is_client(client) and is_number(number) and is_short(text, MOST_TEXT)


def is_command_list(value):
    """Tell whether the value is a tuple of commands with strictly ascending clients."""
    if not isinstance(value, tuple):
        return False
    before = None
    for command in value:
        if not is_command(command):
            return False
        if before is not None and command[0] <= before:
            return False
        before = command[0]
    return True


def last_number(last, client):
    """Return the number that the dict holds for the client, or 0."""
    return last.get(client, 0)


def all_fresh(last, commands):
    """Tell whether the number of each command is greater than the last number of its client."""
    for client, number, _ in commands:
        if number <= last_number(last, client):
            return False
    return True


def numbers_after(last, commands):
    """Return a new dict of the last numbers after the commands."""
    numbers = dict(last)
    for client, number, _ in commands:
        numbers[client] = number
    return numbers
