"""Points 311 to 314: the agreement of one machine."""

import copy
import random
import unittest

from oathledger.agreement import Agreement
from oathledger.blocks import GENESIS, is_block
from oathledger.errors import BadBlock, BadLetter
from oathledger.groups import Group
from tests.values import STRANGE, block

GROUP = Group(1)
# In a group of four, machine 0 leads the epochs 1 to 4, machine 1 leads 5 to 9, machine 2 10 to 14, machine 3 15 to 19.
ROOT = (10, 9, 5, ())
P11 = (11, 10, 6, ())
P12 = (12, 11, 7, ())
P13 = (13, 12, 8, ())
X = ((-3, 1, "x"),)
Y = ((-3, 1, "y"),)


def fresh(root=GENESIS, me=3, numbers=None, faults=1):
    return Agreement(Group(faults), me, root, {} if numbers is None else numbers, [], [])


def give(agreement, kind, each, senders):
    for sender in senders:
        agreement.receive(sender, kind, each)


def notarize(agreement, blocks, senders=(0, 1, 2)):
    """The ready messages of a quorum for each block."""
    for each in blocks:
        give(agreement, "ready", each, senders)


def told(agreement):
    return agreement.last_final(), agreement.tip(), agreement.final_blocks(), agreement.sent("vote"), agreement.sent("ready")


class CreationTest(unittest.TestCase):
    def test_new(self):
        for root in (GENESIS, ROOT):
            agreement = fresh(root)
            self.assertEqual(told(agreement), (root, root, [], [], []))
            self.assertEqual(agreement.advance(11, []), [])

    def test_own_messages_count(self):
        # With its own vote, two more are a quorum; with its own ready message, one more is enough.
        agreement = Agreement(GROUP, 3, ROOT, {}, [P11, P12], [])
        give(agreement, "vote", P11, (0,))
        self.assertEqual(agreement.advance(12, []), [])
        give(agreement, "vote", P11, (1,))
        self.assertEqual(agreement.advance(12, []), [("ready", P11)])
        agreement = Agreement(GROUP, 3, ROOT, {}, [], [P11])
        give(agreement, "ready", P11, (0,))
        self.assertEqual(agreement.advance(12, []), [])
        self.assertEqual(agreement.tip(), ROOT)
        give(agreement, "ready", P11, (1,))
        agreement.advance(12, [])
        self.assertEqual(agreement.tip(), P11)

    def test_own_messages_are_counted_once(self):
        agreement = Agreement(GROUP, 3, ROOT, {}, [P11], [P12])
        for _ in range(3):
            give(agreement, "vote", P11, (3, 0))
            give(agreement, "ready", P12, (3, 0))
        self.assertEqual(agreement.advance(12, []), [])
        self.assertEqual(agreement.tip(), ROOT)

    def test_own_messages_at_the_root_do_not_count(self):
        agreement = Agreement(Group(0), 0, ROOT, {}, [(9, 8, 7, ()), (10, 9, 7, ())], [(8, 7, 6, ()), (10, 9, 7, ())])
        self.assertEqual(told(agreement), (ROOT, ROOT, [], [], []))
        self.assertEqual(agreement.advance(11, []), [])
        self.assertEqual(told(agreement), (ROOT, ROOT, [], [], []))

    def test_own_messages_whose_height_is_not_above_the_root(self):
        # They counted when they were sent, so they still count: the first vote is a quorum of a group of one machine.
        low = (11, 9, 5, ())
        agreement = Agreement(Group(0), 0, ROOT, {}, [low], [])
        self.assertEqual(agreement.advance(12, []), [("ready", low)])
        self.assertEqual(told(agreement), (ROOT, ROOT, [], [low], [low]))

    def test_epochs_of_the_votes(self):
        for votes in ([P12, P11], [P11, P11], [P11, (11, 10, 6, X)], [(5, 0, 1, ()), P11, (3, 0, 1, ())]):
            with self.assertRaises(BadBlock):
                Agreement(GROUP, 3, ROOT, {}, votes, [])

    def test_readies_in_any_order(self):
        for readies in ([P11, P12, P13], [P13, P11, P12]):
            agreement = Agreement(GROUP, 3, ROOT, {}, [], readies)
            self.assertEqual(agreement.sent("ready"), [P11, P12, P13])
            give(agreement, "ready", P11, (0,))
            self.assertEqual(agreement.advance(13, []), [])

    def test_last_and_floor(self):
        first = (16, 10, 6, ())
        cases = [({}, True), ({"last": 15}, True), ({"last": 16}, False), ({"last": 17}, False), ({"floor": 5}, True),
                 ({"floor": 6}, False), ({"last": 15, "floor": 5}, True)]
        for more, good in cases:
            agreement = Agreement(GROUP, 3, ROOT, {}, [], [], **more)
            agreement.receive(3, "propose", first)
            self.assertEqual(agreement.advance(16, []), [("vote", first)] if good else [])
        agreement = Agreement(GROUP, 3, ROOT, {}, [], [], 16, 5)
        agreement.receive(3, "propose", first)
        self.assertEqual(agreement.advance(16, []), [])

    def test_last_and_floor_beside_votes(self):
        # The greater one counts of what the votes tell and of what is restored.
        first = (17, 10, 6, ())
        for votes, more, good in [([(17, 16, 2, ())], {"last": 3}, False), ([(16, 15, 6, ())], {"floor": 2}, True),
                                  ([(16, 15, 7, ())], {"floor": 2}, False), ([(16, 15, 6, ())], {"last": 17}, False)]:
            agreement = Agreement(GROUP, 3, ROOT, {}, votes, [], **more)
            agreement.receive(3, "propose", first)
            self.assertEqual(agreement.advance(17, []), [("vote", first)] if good else [])

    def test_arguments_stay(self):
        numbers, votes, readies = {-3: 1}, [P11], [P13, P12]
        agreement = Agreement(GROUP, 0, ROOT, numbers, votes, readies)
        notarize(agreement, [(11, 10, 6, ((-3, 2, "a"),)), (12, 11, 7, ())], (1, 2, 3))
        known, candidates = [(-3, 2, "a")], [(-2, 1, "b"), (-3, 4, "c")]
        agreement.advance(12, known)
        self.assertEqual(agreement.last_final()[0], 11)
        agreement.propose(20, candidates)
        agreement.adopt((14, 11, 7, ((-3, 9, "z"),)))
        self.assertEqual((numbers, votes, readies), ({-3: 1}, [P11], [P13, P12]))
        self.assertEqual((known, candidates), ([(-3, 2, "a")], [(-2, 1, "b"), (-3, 4, "c")]))

    def test_arguments_are_copied(self):
        numbers, votes, readies = {-3: 1}, [P11], [P12]
        agreement = Agreement(GROUP, 3, ROOT, numbers, votes, readies)
        votes.append(P12)
        readies.append(P13)
        numbers[-3] = 90
        self.assertEqual((agreement.sent("vote"), agreement.sent("ready")), ([P11], [P12]))
        self.assertEqual(agreement.propose(15, [(-3, 2, "a")]), (15, 10, 6, ((-3, 2, "a"),)))


class ReceiveTest(unittest.TestCase):
    def test_returns_nothing(self):
        agreement = fresh(ROOT)
        for kind in ("propose", "vote", "ready"):
            for sender in range(4):
                self.assertIsNone(agreement.receive(sender, kind, P11))

    def test_wrong_kind_or_sender(self):
        agreement = fresh(ROOT)
        for kind in ["give", "Vote", "", "final", "claim"] + STRANGE[:-3]:
            with self.assertRaises(BadLetter):
                agreement.receive(0, kind, P11)
        for sender in [-1, 4, 10 ** 13, "0", None, True, False, 0.0]:
            for kind in ("propose", "vote", "ready"):
                for each in (P11, (3, 0, 1, ())):
                    with self.assertRaises(BadLetter):
                        agreement.receive(sender, kind, each)
        self.assertEqual(agreement.advance(11, []), [])
        self.assertEqual(told(agreement), told(fresh(ROOT)))

    def test_proposals_of_the_leader(self):
        # Machine 2 leads epoch 12.
        first = (12, 10, 6, ())
        for sender in range(4):
            agreement = fresh(ROOT)
            agreement.receive(sender, "propose", first)
            self.assertEqual(agreement.advance(12, []), [("vote", first)] if sender == 2 else [])

    def test_the_first_proposal_of_an_epoch(self):
        first, second = (12, 10, 6, ()), (12, 10, 6, X)
        agreement = fresh(ROOT)
        agreement.receive(1, "propose", second)
        agreement.receive(2, "propose", first)
        agreement.receive(2, "propose", second)
        self.assertEqual(agreement.advance(12, [X[0]]), [("vote", first)])
        agreement = fresh(ROOT)
        agreement.receive(2, "propose", second)
        agreement.receive(2, "propose", first)
        self.assertEqual(agreement.advance(12, []), [])
        self.assertEqual(agreement.advance(12, [X[0]]), [("vote", second)])

    def test_proposals_of_several_epochs(self):
        agreement = fresh(ROOT)
        for epoch in (13, 12):
            agreement.receive(2, "propose", (epoch, 10, 6, ()))
        self.assertEqual(agreement.advance(11, []), [])
        self.assertEqual(agreement.advance(12, []), [("vote", (12, 10, 6, ()))])
        self.assertEqual(agreement.advance(13, []), [("vote", (13, 10, 6, ()))])

    def test_not_above_the_root(self):
        for kind in ("vote", "ready"):
            for low in ((10, 9, 6, ()), (9, 8, 6, ()), (11, 9, 5, ()), (11, 9, 4, ()), (12, 0, 1, ())):
                agreement = fresh(ROOT)
                give(agreement, kind, low, range(4))
                self.assertEqual(agreement.advance(12, []), [])
                self.assertEqual(told(agreement), told(fresh(ROOT)))
            agreement = fresh(ROOT)
            give(agreement, kind, P11, range(3))
            self.assertEqual(agreement.advance(12, []), [("ready", P11)])

    def test_a_message_without_effect_does_not_stand_in_the_way(self):
        agreement = fresh(ROOT)
        for kind in ("vote", "ready", "propose"):
            give(agreement, kind, (11, 9, 5, ()), range(4))
        agreement.receive(2, "propose", P11)
        self.assertEqual(agreement.advance(11, []), [("vote", P11)])
        give(agreement, "vote", P11, (0, 1))
        self.assertEqual(agreement.advance(11, []), [("ready", P11)])
        give(agreement, "ready", P11, (0, 1))
        agreement.advance(11, [])
        self.assertEqual(agreement.tip(), P11)

    def test_a_message_that_counted_stays_counted(self):
        # When they were received, their height was above the root; then the root reaches this height.
        agreement = fresh(ROOT)
        other = (14, 13, 6, ())
        give(agreement, "vote", other, (0, 1))
        agreement.adopt(P11)
        give(agreement, "vote", other, (2,))
        self.assertEqual(agreement.advance(12, []), [])
        agreement = fresh(ROOT)
        give(agreement, "vote", other, (0, 1, 2))
        agreement.adopt(P11)
        self.assertEqual(agreement.advance(12, []), [("ready", other)])
        agreement = fresh(ROOT)
        give(agreement, "vote", other, (0, 1, 2))
        agreement.adopt((14, 10, 6, ()))
        self.assertEqual(agreement.advance(12, []), [])

    def test_a_proposal_stays(self):
        # The second proposal comes when the first one is too low, but the first one was held already.
        agreement = fresh(ROOT)
        agreement.receive(2, "propose", (14, 10, 6, ()))
        agreement.adopt(P11)
        agreement.receive(2, "propose", (14, 11, 7, ()))
        self.assertEqual(agreement.advance(14, []), [])
        agreement = fresh(ROOT)
        agreement.adopt(P11)
        agreement.receive(2, "propose", (14, 10, 6, ()))
        agreement.receive(2, "propose", (14, 11, 7, ()))
        self.assertEqual(agreement.advance(14, []), [("vote", (14, 11, 7, ()))])

    def test_proposals_at_the_root_are_dropped(self):
        agreement = fresh(ROOT)
        agreement.receive(2, "propose", (12, 10, 6, ()))
        agreement.adopt((12, 10, 6, X))
        agreement.receive(2, "propose", (12, 10, 7, ()))
        agreement.receive(2, "propose", (11, 10, 8, ()))
        self.assertEqual([agreement.advance(epoch, []) for epoch in (11, 12)], [[], []])

    def test_epochs_that_there_are_not(self):
        agreement = fresh(ROOT)
        far = (10 ** 12 + 1, 10, 6, ())
        for sender in range(4):
            self.assertIsNone(agreement.receive(sender, "propose", far))
        self.assertEqual(agreement.advance(10 ** 12 + 1, []), [])
        self.assertIsNone(agreement.propose(10 ** 12 + 1, []))
        last = (10 ** 12, 10, 6, ())
        agreement = fresh(ROOT, me=0)
        self.assertEqual(agreement.propose(10 ** 12, []), last)
        self.assertEqual(agreement.advance(10 ** 12, []), [("vote", last)])


class AdvanceTest(unittest.TestCase):
    def test_a_vote(self):
        agreement = fresh(ROOT, me=2)
        agreement.receive(2, "propose", P11)
        self.assertEqual(agreement.advance(10, []), [])
        self.assertEqual(agreement.advance(12, []), [])
        self.assertEqual(agreement.advance(11, []), [("vote", P11)])
        self.assertEqual(agreement.advance(11, []), [])
        self.assertEqual(told(agreement), (ROOT, ROOT, [], [P11], []))

    def test_what_a_vote_needs(self):
        proposal = (11, 10, 6, ((-3, 4, "x"),))
        for known, numbers, good in [([(-3, 4, "x")], {}, True), ([], {}, False), ([(-3, 4, "x")], {-3: 3}, True),
                                     ([(-3, 4, "x")], {-3: 4}, False), ([(-3, 4, "y")], {}, False)]:
            agreement = fresh(ROOT, numbers=numbers)
            agreement.receive(2, "propose", proposal)
            self.assertEqual(agreement.advance(11, known), [("vote", proposal)] if good else [])

    def test_a_vote_that_becomes_possible(self):
        agreement = fresh(ROOT)
        agreement.receive(2, "propose", P12)
        self.assertEqual(agreement.advance(12, []), [])
        notarize(agreement, [P11])
        self.assertEqual(agreement.advance(12, []), [("ready", P11), ("vote", P12)])

    def test_the_own_vote_counts(self):
        agreement = fresh(ROOT)
        give(agreement, "vote", P11, (0, 1))
        agreement.receive(2, "propose", P11)
        self.assertEqual(agreement.advance(11, []), [("vote", P11), ("ready", P11)])
        self.assertEqual(told(agreement), (ROOT, ROOT, [], [P11], [P11]))

    def test_the_own_ready_message_counts(self):
        agreement = fresh(ROOT)
        give(agreement, "ready", P11, (0, 1))
        self.assertEqual(agreement.advance(12, []), [("ready", P11)])
        self.assertEqual(agreement.tip(), P11)

    def test_one_ready_message_in_an_epoch(self):
        other = (11, 10, 6, X)
        agreement = fresh(ROOT)
        give(agreement, "vote", other, (0, 1, 2))
        self.assertEqual(agreement.advance(12, []), [("ready", other)])
        give(agreement, "ready", P11, (0, 1, 2))
        self.assertEqual(agreement.advance(12, []), [])
        self.assertEqual((agreement.tip(), agreement.sent("ready")), (P11, [other]))

    def test_no_second_ready_message_after_a_restart(self):
        agreement = Agreement(GROUP, 3, ROOT, {}, [], [(11, 10, 6, X)])
        give(agreement, "vote", P11, (0, 1, 2))
        self.assertEqual(agreement.advance(12, []), [])

    def test_order_of_the_actions(self):
        agreement = fresh(ROOT)
        # Block 16 is supported but far away; 12 and 11 are a vote short; the proposal of 17 waits for block 13.
        far = (16, 15, 9, ())
        give(agreement, "ready", far, (0, 1))
        give(agreement, "vote", (14, 13, 9, ()), (0, 1, 2))
        give(agreement, "ready", P12, (0, 1))
        give(agreement, "ready", P11, (0, 1))
        give(agreement, "ready", P13, (0, 1, 2))
        proposal = (17, 13, 9, ())
        agreement.receive(3, "propose", proposal)
        give(agreement, "vote", proposal, (0, 1))
        # In the first round, the ready messages connect 11 to 13, and 12 becomes final. The own vote counts in the second.
        self.assertEqual(agreement.advance(17, []), [
            ("ready", P11), ("ready", P12), ("ready", P13), ("ready", (14, 13, 9, ())), ("ready", far), ("vote", proposal),
            ("ready", proposal)])
        self.assertEqual(agreement.final_blocks(), [P11, P12])
        self.assertEqual((agreement.last_final(), agreement.tip()), (P12, P13))

    def test_ready_messages_of_epochs_in_ascending_order(self):
        agreement = fresh(ROOT)
        for epoch in (19, 12, 15, 11):
            give(agreement, "ready", (epoch, 10, 6, ()), (0, 1))
        self.assertEqual([action[1][0] for action in agreement.advance(11, [])], [11, 12, 15, 19])

    def test_a_vote_for_the_block_that_is_ready(self):
        # The ready message is due in the first step, the vote in the third one of the same round.
        agreement = fresh(ROOT)
        give(agreement, "vote", P11, (0, 1, 2))
        agreement.receive(2, "propose", P11)
        self.assertEqual(agreement.advance(11, []), [("ready", P11), ("vote", P11)])

    def test_no_vote_for_what_is_connected_already(self):
        agreement = fresh(ROOT)
        notarize(agreement, [P11])
        agreement.receive(2, "propose", P11)
        self.assertEqual(agreement.advance(11, []), [("ready", P11)])

    def test_finals(self):
        agreement = fresh(ROOT)
        notarize(agreement, [P11])
        agreement.advance(12, [])
        self.assertEqual((agreement.final_blocks(), agreement.tip()), ([], P11))
        notarize(agreement, [P12])
        agreement.advance(12, [])
        self.assertEqual((agreement.final_blocks(), agreement.tip(), agreement.last_final()), ([P11], P12, P11))
        self.assertEqual(agreement.sent("ready"), [P12])
        notarize(agreement, [(15, 13, 9, ()), P13])
        agreement.advance(12, [])
        self.assertEqual((agreement.final_blocks(), agreement.tip()), ([P11, P12], (15, 13, 9, ())))

    def test_finals_of_a_long_line(self):
        # Blocks of epochs 12, 14, 17 and 18 wait for 11; then 16, 17, 18 make 17 and all below it final.
        line = [(11, 10, 6, ()), (12, 11, 7, ()), (14, 12, 8, ()), (16, 14, 9, ()), (17, 16, 10, ()), (18, 17, 11, ())]
        agreement = fresh(ROOT)
        notarize(agreement, line[:0:-1])
        agreement.advance(19, [])
        self.assertEqual((agreement.final_blocks(), agreement.tip()), ([], ROOT))
        notarize(agreement, line[:1])
        agreement.advance(19, [])
        self.assertEqual((agreement.final_blocks(), agreement.tip()), (line[:5], line[5]))

    def test_finals_are_settled_one_after_the_other(self):
        # Both lines have a final block; after settling on the higher one, the other line is dropped.
        high = [(11, 10, 6, ()), (12, 11, 7, ()), (13, 12, 8, ()), (17, 13, 9, ())]
        low = [(14, 10, 6, ()), (15, 14, 7, ()), (16, 15, 8, ())]
        agreement = fresh(ROOT)
        notarize(agreement, low[:2] + high)
        agreement.advance(18, [])
        self.assertEqual((agreement.final_blocks(), agreement.tip()), (high[:2], high[3]))
        agreement = fresh(ROOT)
        notarize(agreement, low + high[:3])
        agreement.advance(18, [])
        self.assertEqual((agreement.final_blocks(), agreement.tip()), (low[:2], low[2]))

    def test_numbers_of_the_finals(self):
        blocks = [(11, 10, 6, ((-3, 5, "a"),)), (12, 11, 7, ((-3, 7, "b"), (-1, 2, "c"))), (13, 12, 8, ())]
        agreement = fresh(ROOT, numbers={-9: 4})
        notarize(agreement, blocks)
        agreement.advance(14, [])
        self.assertEqual(agreement.last_final(), blocks[1])
        known = [(client, number, "n") for client in (-9, -3, -1) for number in range(1, 10)]
        for client, number, good in [(-3, 7, False), (-3, 8, True), (-1, 2, False), (-1, 3, True), (-9, 4, False), (-9, 5, True)]:
            other = copy.deepcopy(agreement)
            other.receive(3, "propose", (16, 13, 9, ((client, number, "n"),)))
            self.assertEqual(len(other.advance(16, known)), 1 if good else 0)

    def test_votes_of_old_epochs_are_forgotten(self):
        agreement = fresh(ROOT)
        give(agreement, "vote", P13, (0, 1))
        notarize(agreement, [P11, P12, P13])
        agreement.advance(14, [])
        self.assertEqual(agreement.last_final(), P12)
        for each in (P11, P12):
            give(agreement, "vote", each, range(4))
            give(agreement, "ready", each, range(4))
        self.assertEqual(agreement.advance(14, []), [])
        self.assertEqual(agreement.final_blocks(), [P11, P12])

    def test_dropped_blocks_stay_out(self):
        agreement = fresh(ROOT)
        fork = (14, 10, 6, ())
        notarize(agreement, [P11, fork])
        agreement.advance(14, [])
        notarize(agreement, [P12, P13, (15, 14, 7, ()), (16, 15, 8, ())])
        agreement.advance(14, [])
        self.assertIn(agreement.final_blocks(), ([P11, P12], [fork, (15, 14, 7, ())]))
        before = told(agreement)
        self.assertEqual(agreement.advance(14, []), [])
        self.assertEqual(told(agreement), before)

    def test_lists_are_the_callers(self):
        agreement = fresh(ROOT)
        notarize(agreement, [P11, P12])
        agreement.receive(3, "propose", (16, 12, 8, ()))
        agreement.advance(16, []).append(1)
        before = copy.deepcopy(told(agreement))
        for found in (agreement.final_blocks(), agreement.sent("vote"), agreement.sent("ready")):
            self.assertEqual(len(found), 1)
            found.append(1)
        self.assertEqual(told(agreement), before)


class ProposeTest(unittest.TestCase):
    def test_a_block(self):
        agreement = fresh(ROOT)
        self.assertEqual(agreement.propose(15, []), (15, 10, 6, ()))
        self.assertEqual(fresh(GENESIS, 0).propose(1, []), (1, 0, 1, ()))

    def test_nobody_proposes_in_epoch_0(self):
        for me in range(4):
            self.assertIsNone(fresh(GENESIS, me).propose(0, []))

    def test_the_leader_alone_proposes(self):
        for me in range(4):
            for epoch in range(1, 25):
                found = fresh(GENESIS, me).propose(epoch, [])
                self.assertEqual(found, (epoch, 0, 1, ()) if epoch // 5 % 4 == me else None)

    def test_after_a_vote(self):
        for last, epoch in ((14, 15), (15, None), (16, None)):
            agreement = Agreement(GROUP, 3, ROOT, {}, [], [], last)
            self.assertEqual(agreement.propose(15, []), None if epoch is None else (15, 10, 6, ()))
            agreement = Agreement(GROUP, 3, ROOT, {}, [(last, 10, 6, ())], [])
            self.assertEqual(agreement.propose(15, []), None if epoch is None else (15, 10, 6, ()))
        agreement = fresh(ROOT)
        agreement.propose(15, [])
        agreement.advance(15, [])
        self.assertEqual(agreement.sent("vote"), [(15, 10, 6, ())])
        self.assertIsNone(agreement.propose(15, []))
        self.assertEqual(agreement.propose(16, []), (16, 10, 6, ()))

    def test_the_epoch_of_the_tip(self):
        for tip, good in ((14, True), (15, False), (16, False)):
            agreement = fresh(ROOT)
            notarize(agreement, [(tip, 10, 6, ())])
            agreement.advance(11, [])
            self.assertEqual(agreement.propose(15, []), (15, tip, 7, ()) if good else None)
        self.assertIsNone(fresh((15, 10, 6, ())).propose(15, []))

    def test_on_the_tip(self):
        agreement = fresh(ROOT)
        notarize(agreement, [P11, (13, 10, 6, ())])
        agreement.advance(14, [])
        self.assertEqual(agreement.propose(15, []), (15, 13, 7, ()))

    def test_it_is_recorded_as_a_proposal(self):
        agreement = fresh(ROOT)
        found = agreement.propose(15, [X[0]])
        self.assertEqual(agreement.sent("vote"), [])
        self.assertEqual(agreement.advance(15, [X[0]]), [("vote", found)])
        agreement = fresh(ROOT)
        agreement.propose(15, [])
        agreement.receive(3, "propose", (15, 10, 6, X))
        self.assertEqual(agreement.advance(15, [X[0]]), [("vote", (15, 10, 6, ()))])

    def test_none_records_nothing(self):
        agreement = fresh(ROOT)
        self.assertIsNone(agreement.propose(14, []))
        self.assertEqual(agreement.advance(14, []), [])

    def test_the_least_command_of_each_client(self):
        candidates = [(-3, 2, "c"), (-3, 1, "z"), (-8, 4, "d"), (-3, 1, "y"), (-8, 4, ""), (-1, 9, "a"), (-3, 1, "ya")]
        chosen = ((-8, 4, ""), (-3, 1, "y"), (-1, 9, "a"))
        for order in (candidates, candidates[::-1], sorted(candidates)):
            found = fresh(ROOT).propose(15, list(order))
            self.assertEqual(found, (15, 10, 6, chosen))
            self.assertTrue(is_block(found))

    def test_numbers_compare_as_numbers(self):
        self.assertEqual(fresh(ROOT).propose(15, [(-3, 10, "a"), (-3, 9, "b")]), (15, 10, 6, ((-3, 9, "b"),)))

    def test_commands_behind_the_last_numbers(self):
        agreement = fresh(ROOT, numbers={-3: 4, -2: 6, -7: 1})
        notarize(agreement, [(11, 10, 6, ((-2, 8, "p"),)), (14, 10, 6, ((-7, 5, "q"),)), (12, 11, 7, ((-5, 1, "r"),))])
        agreement.advance(11, [])
        self.assertEqual(agreement.tip()[0], 12)
        candidates = [(client, number, "t") for client in (-9, -7, -5, -3, -2) for number in range(1, 12)]
        self.assertEqual(agreement.propose(15, candidates), (15, 12, 8, (
            (-9, 1, "t"), (-7, 2, "t"), (-5, 2, "t"), (-3, 5, "t"), (-2, 9, "t"))))
        self.assertEqual(agreement.propose(16, [(-3, 4, "t"), (-2, 7, "t")]), (16, 12, 8, ()))

    def test_a_candidate_that_is_known_twice(self):
        self.assertEqual(fresh(ROOT).propose(15, [X[0], X[0]]), (15, 10, 6, X))


class AdoptTest(unittest.TestCase):
    def test_adopt(self):
        agreement = fresh(ROOT)
        given = (14, 10, 6, X)
        self.assertIsNone(agreement.adopt(given))
        self.assertEqual(told(agreement), (given, given, [given], [], []))
        agreement.adopt((15, 14, 7, ()))
        self.assertEqual(agreement.final_blocks(), [given, (15, 14, 7, ())])

    def test_blocks_that_do_not_follow(self):
        agreement = fresh(ROOT)
        notarize(agreement, [P11, (12, 10, 6, ())])
        agreement.advance(12, [])
        before = told(agreement)
        for bad in (ROOT, GENESIS, (14, 10, 7, ()), (14, 10, 5, ()), (14, 9, 6, ()), (14, 11, 6, ()), (14, 11, 7, ()), (1, 0, 1, ())):
            with self.assertRaises(BadBlock):
                agreement.adopt(bad)
            self.assertEqual(told(agreement), before)

    def test_the_first_block(self):
        agreement = fresh()
        agreement.adopt((3, 0, 1, ()))
        self.assertEqual(agreement.last_final(), (3, 0, 1, ()))

    def test_a_connected_block(self):
        agreement = fresh(ROOT)
        notarize(agreement, [P11, (13, 11, 7, ()), (14, 10, 6, ())])
        agreement.advance(14, [])
        agreement.adopt(P11)
        self.assertEqual(told(agreement)[:3], (P11, (13, 11, 7, ()), [P11]))
        self.assertEqual(agreement.sent("ready"), [(13, 11, 7, ()), (14, 10, 6, ())])

    def test_its_commands_count(self):
        agreement = fresh(ROOT, numbers={-3: 1})
        agreement.adopt((11, 10, 6, ((-3, 5, "a"), (-2, 1, "b"))))
        candidates = [(client, number, "t") for client in (-3, -2) for number in range(1, 12)]
        self.assertEqual(agreement.propose(15, candidates), (15, 11, 7, ((-3, 6, "t"), (-2, 2, "t"))))

    def test_waiting_blocks(self):
        agreement = fresh(ROOT)
        notarize(agreement, [P12, P13])
        self.assertEqual(agreement.advance(13, []), [("ready", P12), ("ready", P13)])
        self.assertEqual(agreement.tip(), ROOT)
        agreement.adopt(P11)
        self.assertEqual((agreement.tip(), agreement.final_blocks()), (P13, [P11]))
        self.assertEqual(agreement.advance(13, []), [])
        self.assertEqual(agreement.final_blocks(), [P11, P12])

    def test_old_messages_are_dropped(self):
        agreement = Agreement(GROUP, 3, ROOT, {}, [P11, P12], [P11, P12])
        agreement.adopt((12, 10, 6, ()))
        self.assertEqual(told(agreement)[3:], ([], []))
        agreement = Agreement(GROUP, 3, ROOT, {}, [P11, P12], [P12, P11])
        agreement.adopt(P11)
        self.assertEqual(told(agreement)[3:], ([P12], [P12]))


class SentTest(unittest.TestCase):
    def test_sent(self):
        votes = [(9, 8, 4, ()), P11, (14, 10, 6, ())]
        readies = [(14, 10, 6, X), P11, (8, 7, 4, ())]
        agreement = Agreement(GROUP, 3, ROOT, {}, votes, readies)
        self.assertEqual(agreement.sent("vote"), [P11, (14, 10, 6, ())])
        self.assertEqual(agreement.sent("ready"), [P11, (14, 10, 6, X)])
        agreement.receive(3, "propose", (15, 10, 6, ()))
        agreement.advance(15, [])
        give(agreement, "ready", (12, 10, 6, ()), (0, 1))
        agreement.advance(15, [])
        self.assertEqual(agreement.sent("vote"), [P11, (14, 10, 6, ()), (15, 10, 6, ())])
        self.assertEqual(agreement.sent("ready"), [P11, (12, 10, 6, ()), (14, 10, 6, X)])


class Play:
    """A group of machines whose messages are lost and reordered; the last ones lie."""

    def __init__(self, rng, faults):
        self.rng = rng
        self.group = Group(faults)
        self.liars = list(range(self.group.machines - faults, self.group.machines))
        self.honest = [machine for machine in self.group.members() if machine not in self.liars]
        self.agreements = {me: Agreement(self.group, me, GENESIS, {}, [], []) for me in self.honest}
        self.flying = []
        self.sent = {}
        self.proposed = []
        # The final blocks of each machine from before its last restart.
        self.ended = {me: [] for me in self.honest}

    def send(self, sender, kind, each):
        self.flying.extend([(sender, receiver, kind, each) for receiver in self.honest if receiver != sender])

    def act(self, me, epoch):
        for kind, each in self.agreements[me].advance(epoch, [(-1, number, "a") for number in range(1, 99)]):
            # One message of each kind in an epoch, and votes in ascending order.
            assert (me, kind, each[0]) not in self.sent
            self.sent[me, kind, each[0]] = each
            if kind == "vote":
                assert each[0] == epoch
            self.send(me, kind, each)

    def lie(self, epoch):
        liar = self.rng.choice(self.liars)
        kind = self.rng.choice(["propose", "vote", "ready"])
        parent = self.rng.choice([GENESIS] + self.proposed)
        blocks = [each for each in self.proposed if each[0] in (epoch, epoch - 1)] or [(epoch, 0, 1, ())]
        if parent[0] < epoch:
            blocks.append((epoch, parent[0], parent[2] + 1, ((-1, self.rng.randrange(1, 99), "a"),)))
        for receiver in self.honest:
            self.flying.append((liar, receiver, kind, self.rng.choice(blocks)))

    def step(self, epoch, loss):
        for me in self.honest:
            each = self.agreements[me].propose(epoch, [(-1, number, "a") for number in range(1, 99)])
            if each is not None:
                self.proposed.append(each)
                self.send(me, "propose", each)
            for kind in ("vote", "ready"):
                for old in self.agreements[me].sent(kind):
                    self.send(me, kind, old)
            self.act(me, epoch)
        for _ in range(self.rng.randrange(4) if self.liars else 0):
            self.lie(epoch)
        for _ in range(len(self.flying) * 2):
            if not self.flying:
                return
            sender, receiver, kind, each = self.flying.pop(self.rng.randrange(len(self.flying)))
            if self.rng.randrange(100) >= loss:
                self.agreements[receiver].receive(sender, kind, each)
                self.act(receiver, epoch)

    def restart(self, me):
        """A machine that comes back from what it wrote down."""
        old = self.agreements[me]
        self.ended[me] = self.ledger(me)
        numbers = {}
        for each in self.ended[me]:
            numbers.update({command[0]: command[1] for command in each[3]})
        votes = [each for key, each in self.sent.items() if key[:2] == (me, "vote")]
        last = max([each[0] for each in votes], default=0)
        floor = max([each[2] - 1 for each in votes], default=0)
        self.agreements[me] = Agreement(self.group, me, old.last_final(), numbers, old.sent("vote"), old.sent("ready"), last, floor)

    def ledger(self, me):
        return self.ended[me] + self.agreements[me].final_blocks()


class AgreeTest(unittest.TestCase):
    def assert_agree(self, ledgers):
        longest = max(ledgers, key=len)
        for ledger in ledgers:
            self.assertEqual(ledger, longest[:len(ledger)])

    def test_final_blocks_agree(self):
        for seed in range(24):
            rng = random.Random(seed)
            play = Play(rng, rng.choice([0, 1, 1, 2]))
            grown = {me: [] for me in play.honest}
            for epoch in range(1, 45):
                play.step(epoch, rng.choice([0, 5, 40]))
                if rng.randrange(5) == 0:
                    play.restart(rng.choice(play.honest))
                for me in play.honest:
                    ledger = play.ledger(me)
                    self.assertEqual(ledger[:len(grown[me])], grown[me])
                    self.assertEqual([each[2] for each in ledger], list(range(1, len(ledger) + 1)))
                    grown[me] = ledger
                self.assert_agree(list(grown.values()))
            numbers = [command[1] for each in max(grown.values(), key=len) for command in each[3]]
            self.assertEqual(numbers, sorted(set(numbers)))

    def test_blocks_become_final_without_liars(self):
        for faults in (0, 1, 2):
            play = Play(random.Random(1), faults)
            play.liars = []
            for epoch in range(1, 16 + 5 * faults):
                play.step(epoch, 0)
            for me in play.honest:
                self.assertGreater(len(play.ledger(me)), 4)


if __name__ == "__main__":
    unittest.main()
