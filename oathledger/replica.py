"""The final blocks of a machine, and the state after their commands (points 508 and 509)."""

from oathledger.blocks import GENESIS, follows
from oathledger.errors import BadBlock
from oathledger.executor import State, execute_block
from oathledger.snapshot import state_of, state_text

CHECKPOINT = 8


class Replica:
    """The final blocks from height 1 on, executed."""

    def __init__(self, blocks, checkpoint):
        check_ledger(blocks)
        height = 0
        state = State()
        if checkpoint is not None:
            height, text = checkpoint
            if height > len(blocks):
                raise BadBlock()
            state = state_of(text)
        for block in blocks[height:]:
            execute_block(state, block)
        self._blocks = list(blocks)
        self._state = state

    def blocks(self):
        """Return a new list of the blocks."""
        return list(self._blocks)

    def height(self):
        """Return the number of blocks."""
        return len(self._blocks)

    def last_block(self):
        """Return the last block, or genesis."""
        return last_of(self._blocks)

    def execute(self, block):
        """Execute the next block, and return the clients, numbers and answers of its commands."""
        if not follows(block, self.last_block()):
            raise BadBlock()
        self._blocks.append(block)
        return execute_block(self._state, block)

    def last_number(self, client):
        """Return the last executed number of the client, or 0."""
        return self._state.sessions.last(client)

    def answer(self, client):
        """Return the answer of the last command of the client, or the empty string."""
        return self._state.sessions.answer(client)

    def numbers(self):
        """Return a new dict from the clients to their last executed numbers."""
        return self._state.sessions.numbers()

    def state_text(self):
        """Return the text of the state."""
        return state_text(self._state)


def last_of(blocks):
    """Return the last one of the blocks, or genesis if there is none."""
    if len(blocks) == 0:
        return GENESIS
    return blocks[-1]


def check_ledger(blocks):
    """Raise BadBlock if a block does not follow the one before it."""
    before = GENESIS
    for block in blocks:
        if not follows(block, before):
            raise BadBlock()
        before = block
