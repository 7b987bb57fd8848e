"""Points 305 to 308: the chain."""

import itertools
import random
import unittest

from oathledger.blocks import GENESIS
from oathledger.chain import Chain
from oathledger.errors import BadBlock
from tests.values import block

B1 = (1, 0, 1, ())
B2 = (2, 1, 2, ())
B3 = (3, 2, 3, ())
B4 = (4, 3, 4, ())
ROOT = (10, 7, 5, ())
C11 = (11, 10, 6, ())
C12 = (12, 11, 7, ())
C13 = (13, 12, 8, ())
FORK = (14, 10, 6, ())


class Model:
    """The chain told once more: it looks at all blocks again after each call."""

    def __init__(self, root):
        self.root = root
        self.joined = []
        self.waiting = []

    def parent(self, each):
        found = [other for other in [self.root] + self.joined if other[0] == each[1]]
        return found[0] if found else None

    def connect(self):
        before = list(self.joined)
        moved = True
        while moved:
            moved = False
            for each in list(self.waiting):
                parent = self.parent(each)
                if parent is not None:
                    moved = True
                    self.waiting.remove(each)
                    if each[2] == parent[2] + 1:
                        self.joined.append(each)
        return sorted([each for each in self.joined if each not in before], key=lambda each: (each[2], each[0]))

    def insert(self, each):
        known = [other[0] for other in [self.root] + self.joined + self.waiting]
        if each[0] in known or each[0] <= self.root[0] or each[2] <= self.root[2]:
            return []
        self.waiting.append(each)
        return self.connect()

    def path(self, epoch):
        found = [each for each in self.joined if each[0] == epoch]
        if not found:
            return []
        return self.path(found[0][1]) + found

    def tip(self):
        return sorted([self.root] + self.joined, key=lambda each: (each[2], each[0]))[-1]

    def final(self):
        every = [self.root] + self.joined
        found = []
        for a, b, c in itertools.product(every, repeat=3):
            if b[0] == a[0] + 1 and c[0] == b[0] + 1 and b[1] == a[0] and c[1] == b[0]:
                found.extend(self.path(b[0]))
        return max(found, key=lambda each: (each[2], each[0]), default=None)

    def settle(self, each):
        kept = [other for other in self.joined if each in self.path(other[0])[:-1]]
        self.root = each
        self.joined = kept
        self.waiting = [other for other in self.waiting if other[2] > each[2] and other[0] > each[0]]
        self.connect()


def chain_of(root, blocks):
    """A chain with these blocks inserted."""
    chain = Chain(root)
    for each in blocks:
        chain.insert(each)
    return chain


def told(chain, epochs=range(30)):
    """What a chain tells."""
    joined = {epoch: chain.connected(epoch) for epoch in epochs if chain.connected(epoch) is not None}
    return chain.root, joined, chain.tip(), chain.final(), {epoch: chain.path(epoch) for epoch in joined}


class InsertTest(unittest.TestCase):
    def test_new(self):
        for root in (GENESIS, ROOT):
            chain = Chain(root)
            self.assertEqual(told(chain), (root, {root[0]: root}, root, None, {root[0]: []}))

    def test_in_order(self):
        chain = Chain(GENESIS)
        for each in (B1, B2, B3, B4):
            self.assertEqual(chain.insert(each), [each])
            self.assertEqual(chain.connected(each[0]), each)
            self.assertEqual(chain.tip(), each)

    def test_every_order(self):
        blocks = [B1, B2, B3, (6, 2, 3, ()), (7, 0, 1, ())]
        for order in itertools.permutations(blocks):
            chain = Chain(GENESIS)
            found = []
            for count, each in enumerate(order):
                reached = chain.insert(each)
                present = {other[0] for other in order[:count + 1]}
                self.assertEqual(reached, sorted(reached, key=lambda other: (other[2], other[0])))
                found.extend(reached)
                for other in blocks:
                    line = {1: {1}, 2: {1, 2}, 3: {1, 2, 3}, 6: {1, 2, 6}, 7: {7}}[other[0]]
                    self.assertEqual(chain.connected(other[0]), other if line <= present else None)
                    self.assertEqual(other in found, line <= present)
            self.assertEqual(sorted(found), sorted(blocks))

    def test_a_parent_that_comes_later(self):
        chain = Chain(GENESIS)
        self.assertEqual(chain.insert(B3), [])
        self.assertEqual(chain.insert((5, 1, 2, ())), [])
        self.assertEqual(chain.insert(B2), [])
        self.assertEqual((chain.connected(2), chain.connected(3), chain.tip()), (None, None, GENESIS))
        self.assertEqual(chain.insert(B1), [B1, B2, (5, 1, 2, ()), B3])
        self.assertEqual(chain.tip(), B3)

    def test_order_of_the_connected(self):
        # The epochs do not ascend with the heights: 4 is lower than 3.
        chain = chain_of(GENESIS, [(4, 1, 2, ()), (3, 2, 3, ()), (2, 1, 2, ()), (6, 4, 3, ())])
        self.assertEqual(chain.insert(B1), [B1, B2, (4, 1, 2, ()), B3, (6, 4, 3, ())])

    def test_heights_that_do_not_fit(self):
        chain = chain_of(ROOT, [C11])
        for bad in ((12, 10, 7, ()), (12, 11, 6, ()), (12, 11, 8, ())):
            self.assertEqual(chain.insert(bad), [])
            self.assertIsNone(chain.connected(12))
        # What was dropped does not stand in the way of another block of its epoch.
        self.assertEqual(chain.insert(C12), [C12])

    def test_a_waiting_block_whose_height_does_not_fit(self):
        chain = chain_of(ROOT, [(12, 11, 8, ()), (13, 12, 9, ())])
        self.assertEqual(chain.insert(C11), [C11])
        self.assertIsNone(chain.connected(12))
        # Block 12 was dropped, and block 13 still waits for one of epoch 12.
        self.assertEqual(chain.insert(C13), [])
        self.assertEqual(chain.insert(C12), [C12])
        self.assertIsNone(chain.connected(13))
        self.assertEqual(chain.insert(C13), [C13])

    def test_a_dropped_block_may_be_inserted_again(self):
        chain = chain_of(GENESIS, [B1])
        self.assertEqual(chain.insert(B3), [])
        self.assertEqual(chain.insert((2, 0, 1, ())), [(2, 0, 1, ())])
        chain = chain_of(GENESIS, [(2, 0, 1, ())])
        for _ in range(2):
            self.assertEqual(chain.insert(B3), [])
        chain.settle((2, 1, 2, ()))
        self.assertEqual(chain.insert(B3), [B3])

    def test_the_same_epoch_twice(self):
        other = (11, 10, 6, ((-1, 1, ""),))
        chain = chain_of(ROOT, [C11])
        self.assertEqual([chain.insert(C11), chain.insert(other)], [[], []])
        self.assertEqual(chain.connected(11), C11)
        chain = chain_of(ROOT, [C12])
        self.assertEqual([chain.insert(C12), chain.insert((12, 10, 6, ()))], [[], []])
        self.assertEqual(chain.insert(C11), [C11, C12])

    def test_not_above_the_root(self):
        chain = Chain(ROOT)
        for low in (ROOT, (10, 3, 9, ()), (9, 7, 6, ()), (11, 10, 5, ()), (11, 7, 4, ()), (3, 0, 1, ()), (11, 0, 1, ())):
            self.assertEqual(chain.insert(low), [])
        # None of them waits.
        self.assertEqual(chain.insert(C11), [C11])
        self.assertEqual(told(chain)[1], {10: ROOT, 11: C11})
        self.assertEqual(Chain(GENESIS).insert(GENESIS), [])

    def test_a_block_below_the_root_is_no_parent(self):
        chain = Chain(ROOT)
        self.assertEqual(chain.insert((11, 9, 6, ())), [])
        self.assertEqual(chain.insert((12, 0, 6, ())), [])
        self.assertEqual(told(chain)[1], {10: ROOT})


class LookTest(unittest.TestCase):
    def test_connected(self):
        chain = chain_of(ROOT, [C11, C13])
        self.assertEqual([chain.connected(epoch) for epoch in (0, 7, 9, 10, 11, 12, 13)],
                         [None, None, None, ROOT, C11, None, None])

    def test_tip_among_equal_heights(self):
        self.assertEqual(chain_of(ROOT, [C11, FORK]).tip(), FORK)
        self.assertEqual(chain_of(ROOT, [FORK, C11]).tip(), FORK)
        self.assertEqual(chain_of(ROOT, [FORK, C11, C12]).tip(), C12)
        self.assertEqual(chain_of(ROOT, [FORK, C12]).tip(), FORK)
        commands = ((-1, 1, "z"),)
        self.assertEqual(chain_of(ROOT, [(11, 10, 6, commands), FORK]).tip(), FORK)

    def test_path(self):
        chain = chain_of(ROOT, [C11, C12, C13, FORK])
        self.assertEqual(chain.path(10), [])
        self.assertEqual(chain.path(11), [C11])
        self.assertEqual(chain.path(13), [C11, C12, C13])
        self.assertEqual(chain.path(14), [FORK])
        chain.path(13).append(FORK)
        self.assertEqual(chain.path(13), [C11, C12, C13])

    def test_no_path(self):
        chain = chain_of(ROOT, [C11, C13])
        for epoch in (0, 7, 9, 12, 13, 99):
            with self.assertRaises(BadBlock):
                chain.path(epoch)


class FinalTest(unittest.TestCase):
    def test_the_root_is_the_first_of_three(self):
        self.assertEqual(chain_of(GENESIS, [B1, B2]).final(), B1)
        self.assertEqual(chain_of(ROOT, [C11, C12]).final(), C11)

    def test_fewer_than_three(self):
        self.assertIsNone(chain_of(GENESIS, [B1]).final())
        self.assertIsNone(chain_of(ROOT, [C11]).final())
        self.assertIsNone(chain_of(ROOT, [C11, (13, 11, 7, ()), (14, 13, 8, ())]).final())

    def test_the_middle_of_the_highest_three(self):
        self.assertEqual(chain_of(ROOT, [C11, C12, C13]).final(), C12)
        self.assertEqual(chain_of(ROOT, [C11, C12, C13, (14, 13, 9, ())]).final(), C13)

    def test_ancestors_have_any_epochs(self):
        blocks = [(12, 10, 6, ()), (15, 12, 7, ()), (16, 15, 8, ()), (17, 16, 9, ()), (19, 17, 10, ())]
        self.assertEqual(chain_of(ROOT, blocks).final(), (16, 15, 8, ()))

    def test_epochs_in_a_row_of_other_lines(self):
        self.assertIsNone(chain_of(ROOT, [C11, (12, 10, 6, ()), (13, 12, 7, ())]).final())
        self.assertIsNone(chain_of(ROOT, [C11, (14, 11, 7, ()), (15, 14, 8, ()), (13, 10, 6, ())]).final())
        self.assertIsNone(chain_of(ROOT, [(12, 10, 6, ()), (13, 12, 7, ()), (14, 12, 7, ())]).final())
        self.assertIsNone(chain_of(ROOT, [(12, 10, 6, ()), (13, 10, 6, ()), (14, 13, 7, ())]).final())

    def test_waiting_blocks_do_not_count(self):
        chain = chain_of(ROOT, [C12, C13])
        self.assertIsNone(chain.final())
        chain.insert(C11)
        self.assertEqual(chain.final(), C12)

    def test_several_of_one_height(self):
        left = [(12, 10, 6, ()), (13, 12, 7, ()), (14, 13, 8, ())]
        right = [(16, 10, 6, ()), (17, 16, 7, ()), (18, 17, 8, ())]
        for blocks in (left + right, right + left):
            self.assertEqual(chain_of(ROOT, blocks).final(), (17, 16, 7, ()))

    def test_the_highest_is_not_of_the_greatest_epoch(self):
        high = [C11, C12, C13]
        low = [(20, 10, 6, ()), (21, 20, 7, ()), (22, 21, 8, ())]
        self.assertEqual(chain_of(ROOT, low[:2] + [(21, 20, 7, ())] + high).final(), C12)
        self.assertEqual(chain_of(ROOT, low + high + [(14, 13, 9, ())]).final(), C13)


class SettleTest(unittest.TestCase):
    def test_on_a_connected_block(self):
        chain = chain_of(ROOT, [C11, C12, C13, FORK, (15, 14, 7, ()), (16, 11, 7, ())])
        self.assertIsNone(chain.settle(C11))
        self.assertEqual(told(chain)[:3], (C11, {11: C11, 12: C12, 13: C13, 16: (16, 11, 7, ())}, C13))
        self.assertEqual(chain.path(13), [C12, C13])
        with self.assertRaises(BadBlock):
            chain.path(10)
        with self.assertRaises(BadBlock):
            chain.path(14)

    def test_finals_of_the_settled(self):
        chain = chain_of(ROOT, [C11, C12, C13])
        chain.settle(C12)
        self.assertEqual((chain.root, chain.final(), chain.tip()), (C12, None, C13))
        chain.insert((14, 13, 9, ()))
        self.assertEqual(chain.final(), C13)

    def test_on_the_tip(self):
        chain = chain_of(ROOT, [C11, FORK])
        chain.settle(FORK)
        self.assertEqual(told(chain)[:3], (FORK, {14: FORK}, FORK))

    def test_on_a_block_that_is_not_connected(self):
        chain = chain_of(ROOT, [C11, C12, FORK])
        far = (20, 18, 9, ())
        self.assertIsNone(chain.settle(far))
        self.assertEqual(told(chain)[:3], (far, {20: far}, far))
        self.assertEqual(chain.insert((21, 20, 10, ())), [(21, 20, 10, ())])

    def test_on_a_block_that_waits(self):
        chain = chain_of(ROOT, [C13, (15, 13, 9, ()), (16, 12, 8, ())])
        chain.settle(C13)
        self.assertEqual(told(chain)[1], {13: C13, 15: (15, 13, 9, ())})

    def test_not_higher(self):
        chain = chain_of(ROOT, [C11, C12, C13, (16, 15, 9, ())])
        before = told(chain)
        for low in (ROOT, (11, 10, 5, ()), (30, 20, 5, ()), (30, 20, 4, ()), GENESIS):
            with self.assertRaises(BadBlock):
                chain.settle(low)
            self.assertEqual(told(chain), before)
        self.assertEqual(chain.insert((15, 13, 9, ())), [(15, 13, 9, ())])

    def test_waiting_blocks_that_are_connected(self):
        chain = chain_of(ROOT, [(16, 15, 8, ()), (17, 16, 9, ()), (18, 15, 8, ())])
        settled = (15, 13, 7, ())
        chain.settle(settled)
        self.assertEqual(told(chain)[1], {15: settled, 16: (16, 15, 8, ()), 17: (17, 16, 9, ()), 18: (18, 15, 8, ())})
        self.assertEqual(chain.final(), (16, 15, 8, ()))

    def test_waiting_blocks_whose_height_does_not_fit(self):
        chain = chain_of(ROOT, [(16, 15, 9, ()), (17, 16, 10, ())])
        chain.settle((15, 13, 7, ()))
        self.assertEqual(told(chain)[1], {15: (15, 13, 7, ())})
        # 16 was dropped, and 17 waits for another one.
        self.assertEqual(chain.insert((16, 15, 8, ())), [(16, 15, 8, ())])

    def test_waiting_blocks_that_are_dropped(self):
        settled = (15, 13, 7, ())
        for gone in ((16, 8, 7, ()), (16, 8, 6, ()), (15, 14, 8, ()), (14, 12, 9, ())):
            chain = chain_of(ROOT, [gone])
            chain.settle(settled)
            self.assertEqual(told(chain)[1], {15: settled})
            other = (gone[0], 15, 8, ())
            # A block that still waited would keep out another one of its epoch.
            self.assertEqual(chain.insert(other), [other] if gone[0] > 15 else [])

    def test_dropped_blocks_do_not_wait_for_another_root(self):
        # The second root has a lower epoch than the first one, which drops what waited for it.
        for gone, later in (((14, 13, 9, ()), (13, 12, 8, ())), ((15, 14, 9, ()), (14, 12, 8, ()))):
            chain = chain_of(ROOT, [gone])
            chain.settle((15, 13, 7, ()))
            chain.settle(later)
            self.assertEqual(told(chain)[1], {later[0]: later})
            self.assertEqual(chain.insert(gone), [gone])

    def test_waiting_blocks_that_stay(self):
        chain = chain_of(ROOT, [(18, 17, 9, ())])
        chain.settle((15, 13, 7, ()))
        self.assertEqual(chain.insert((18, 15, 8, ())), [])
        self.assertEqual(chain.insert((17, 15, 8, ())), [(17, 15, 8, ()), (18, 17, 9, ())])

    def test_dropped_blocks_may_come_again(self):
        chain = chain_of(ROOT, [C11, FORK, (15, 14, 7, ())])
        chain.settle(C11)
        self.assertEqual(chain.insert((15, 14, 7, ())), [])
        self.assertEqual(chain.insert(FORK), [])
        self.assertEqual(chain.insert((14, 11, 7, ())), [(14, 11, 7, ())])

    def test_the_root_attribute(self):
        chain = Chain(GENESIS)
        self.assertEqual(chain.root, GENESIS)
        chain.settle(C11)
        self.assertEqual(chain.root, C11)


class RandomTest(unittest.TestCase):
    def test_random_calls(self):
        rng = random.Random(8)
        seen = {"several": 0, "final": 0, "settled": 0, "loose": 0, "bad": 0}
        for _ in range(600):
            root = rng.choice([GENESIS, (2, 0, 1, ()), (3, 2, 2, ())])
            chain, model = Chain(root), Model(root)
            for _ in range(40):
                epoch = rng.randrange(1, 16)
                parent = rng.randrange(max(0, epoch - 3), epoch)
                each = block(epoch, parent, rng.randrange(2, min(7, parent + 2)) if parent else 1)
                reached = chain.insert(each)
                self.assertEqual(reached, model.insert(each))
                seen["several"] += len(reached) > 1
                self.assertEqual(chain.final(), model.final())
                if rng.randrange(15) == 0 and chain.final() is not None:
                    seen["final"] += 1
                    each = chain.final()
                    chain.settle(each)
                    model.settle(each)
                elif rng.randrange(40) == 0:
                    loose = chain.connected(each[0])
                    if each[2] <= model.root[2]:
                        seen["bad"] += 1
                        self.assertRaises(BadBlock, chain.settle, each)
                    elif loose is None or loose == each:
                        seen["loose" if loose is None else "settled"] += 1
                        chain.settle(each)
                        model.settle(each)
                self.assertEqual(told(chain)[:4], (model.root, {other[0]: other for other in [model.root] + model.joined},
                                                   model.tip(), model.final()))
                for other in model.joined:
                    self.assertEqual(chain.path(other[0]), model.path(other[0]))
        self.assertGreater(min(seen.values()), 10, seen)


if __name__ == "__main__":
    unittest.main()
