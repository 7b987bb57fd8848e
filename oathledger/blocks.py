"""Blocks of commands (points 116 to 119)."""

from oathledger.errors import BadBlock
from oathledger.limits import MOST_NUMBER
from oathledger.requests import is_command_list
from oathledger.texts import is_integer

GENESIS = (0, 0, 0, ())


def is_block(value):
    """Tell whether the value is a block other than genesis."""
    if not isinstance(value, tuple) or len(value) != 4:
        return False
    epoch, parent, height, commands = value
    if not is_integer(epoch, 1, MOST_NUMBER) or not is_integer(parent, 0, epoch - 1):
        return False
    return is_height_above(parent, height) and is_command_list(commands)


def is_height_above(parent, height):
    """Tell whether a block whose parent has this epoch may have the height."""
    if parent == 0:
        return is_integer(height, 1, 1)
    # The blocks below have different epochs from 1 to that of the parent, so the height is bounded by it.
    return is_integer(height, 2, parent + 1)


def is_genesis(value):
    """Tell whether the value is the genesis block."""
    if not isinstance(value, tuple) or len(value) != 4:
        return False
    epoch, parent, height, commands = value
    # A comparison with GENESIS alone would take False for 0.
    zeros = is_integer(epoch, 0, 0) and is_integer(parent, 0, 0) and is_integer(height, 0, 0)
    return zeros and isinstance(commands, tuple) and len(commands) == 0


def check_block(value):
    """Return the value if it is a block other than genesis."""
    if not is_block(value):
        raise BadBlock()
    return value


def follows(block, parent):
    """Tell whether the block names the other one, a block or genesis, as its parent."""
    if not is_block(block) or not (is_block(parent) or is_genesis(parent)):
        return False
    return block[1] == parent[0] and block[2] == parent[2] + 1


def command_of(block, client):
    """Return the command of the client in the block, or None."""
    for command in block[3]:
        if command[0] == client:
            return command
    return None
