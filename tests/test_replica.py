"""Points 508 and 509: the final blocks and the state after them."""

import unittest

from oathledger.blocks import GENESIS
from oathledger.errors import BadBlock, BadText
from oathledger.executor import State, execute
from oathledger.replica import CHECKPOINT, Replica
from oathledger.snapshot import state_text
from tests.objects import inside

BLOCKS = [
    (2, 0, 1, ((-2, 1, "open bob"), (-1, 1, "open ann;issue ann 100"))),
    (3, 2, 2, ()),
    (5, 3, 3, ((-3, 1, "no command"), (-1, 2, "pay ann bob 30"))),
    (6, 5, 4, ((-2, 2, "balance bob;put k v"),)),
    (9, 6, 5, ((-2, 3, "pay bob ann 31"), (-1, 3, "get k;balance ann"))),
]


def executed(blocks):
    """The state and the rows after executing the commands of the blocks one by one."""
    state = State()
    rows = [[(each[0], each[1], execute(state, each)) for each in block[3]] for block in blocks]
    return state, rows


def text_at(height):
    """The text of the state after that many blocks."""
    return state_text(executed(BLOCKS[:height])[0])


def told(replica):
    """All that a replica tells."""
    clients = (-1, -2, -3, -4)
    return (replica.blocks(), replica.height(), replica.last_block(), [replica.last_number(client) for client in clients],
            [replica.answer(client) for client in clients], replica.numbers(), replica.state_text())


class EmptyTest(unittest.TestCase):
    def test_no_block(self):
        replica = Replica([], None)
        self.assertEqual(told(replica), ([], 0, GENESIS, [0] * 4, [""] * 4, {}, state_text(State())))

    def test_the_constant(self):
        self.assertEqual(CHECKPOINT, 8)


class BlocksTest(unittest.TestCase):
    def test_several_blocks(self):
        replica = Replica(BLOCKS, None)
        self.assertEqual((replica.blocks(), replica.height(), replica.last_block()), (BLOCKS, 5, BLOCKS[-1]))
        self.assertEqual(replica.numbers(), {-1: 3, -2: 3, -3: 1})
        self.assertEqual([replica.last_number(client) for client in (-1, -2, -3, -4)], [3, 3, 1, 0])
        self.assertEqual([replica.answer(client) for client in (-1, -2, -3, -4)],
                         ["v;70", "refused 0 funds", "invalid 0 verb", ""])
        self.assertEqual(replica.state_text(), text_at(5))

    def test_the_lists_and_the_dict_are_new(self):
        blocks = list(BLOCKS)
        replica = Replica(blocks, None)
        before = told(replica)
        blocks.pop()
        replica.blocks().pop()
        replica.numbers()[-1] = 9
        self.assertEqual(told(replica), before)
        replica = Replica(blocks, None)
        replica.execute(BLOCKS[4])
        self.assertEqual(blocks, BLOCKS[:4])

    def test_a_block_that_does_not_follow(self):
        wrong = [
            BLOCKS[1:], [(2, 1, 2, ())], BLOCKS[:1] + BLOCKS[2:], BLOCKS[:2] + [(5, 4, 3, ())], BLOCKS[:4] + [(9, 6, 4, ())],
            BLOCKS[:4] + [(9, 5, 5, ())], [BLOCKS[0]] + BLOCKS, BLOCKS + BLOCKS[-1:], [(2, 0, 1, ()), (2, 0, 1, ())],
        ]
        for blocks in wrong:
            with self.assertRaises(BadBlock):
                Replica(blocks, None)
            with self.assertRaises(BadBlock):
                Replica(blocks, (0, text_at(0)))


class ExecuteTest(unittest.TestCase):
    def test_answers_numbers_and_texts(self):
        replica = Replica([], None)
        for count, block in enumerate(BLOCKS, start=1):
            state, rows = executed(BLOCKS[:count])
            self.assertEqual(replica.execute(block), rows[-1])
            self.assertEqual((replica.blocks(), replica.height(), replica.last_block()), (BLOCKS[:count], count, block))
            self.assertEqual(replica.state_text(), state_text(state))
            self.assertEqual(replica.numbers(), state.sessions.numbers())

    def test_a_block_that_does_not_follow_changes_nothing(self):
        for height in range(5):
            replica = Replica(BLOCKS[:height], None)
            before = inside(replica)
            for other in [GENESIS] + BLOCKS[:height] + BLOCKS[height + 1:] + [(99, 98, height + 1, ((-1, 9, "a"),))]:
                with self.assertRaises(BadBlock):
                    replica.execute(other)
                self.assertEqual(inside(replica), before)
            replica.execute(BLOCKS[height])

    def test_a_number_that_was_executed_before(self):
        replica = Replica(BLOCKS, None)
        rows = replica.execute((10, 9, 6, ((-2, 3, "balance bob"), (-1, 2, "balance ann"))))
        self.assertEqual(rows, [(-2, 3, "refused 0 funds"), (-1, 2, "stale")])
        self.assertEqual((replica.last_number(-1), replica.answer(-1)), (3, "v;70"))


class CheckpointTest(unittest.TestCase):
    def test_every_height(self):
        for length in range(6):
            plain = told(Replica(BLOCKS[:length], None))
            for height in range(length + 1):
                replica = Replica(BLOCKS[:length], (height, text_at(height)))
                self.assertEqual(told(replica), plain)
                for block in BLOCKS[length:]:
                    replica.execute(block)
                self.assertEqual(told(replica), told(Replica(BLOCKS, None)))

    def test_only_the_blocks_above_are_executed(self):
        state = State()
        execute(state, (-5, 7, "put other w"))
        for height in range(6):
            replica = Replica(BLOCKS, (height, state_text(state)))
            expected = state.clone()
            for block in BLOCKS[height:]:
                for command in block[3]:
                    execute(expected, command)
            self.assertEqual(replica.state_text(), state_text(expected))
            self.assertEqual(replica.blocks(), BLOCKS)

    def test_above_the_last_block(self):
        for blocks, height in ((BLOCKS, 6), (BLOCKS, 8), ([], 1)):
            with self.assertRaises(BadBlock):
                Replica(blocks, (height, text_at(5)))

    def test_a_text_that_is_none(self):
        for text in ("", "n", "t0:", text_at(3)[:-1], text_at(3) + "n", "t5:i1;t0:t0:t0:t0:"):
            for height in (0, 3, 5):
                with self.assertRaises(BadText):
                    Replica(BLOCKS, (height, text))

    def test_which_error_comes_first(self):
        with self.assertRaises(BadBlock):
            Replica(BLOCKS[1:], (0, "no text"))
        with self.assertRaises(BadBlock):
            Replica(BLOCKS, (6, "no text"))


if __name__ == "__main__":
    unittest.main()
