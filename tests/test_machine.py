"""Points 500, 502, 505 and 510 to 521: one machine, call by call."""

import copy
import unittest
import unittest.mock

from oathledger.blocks import GENESIS
from oathledger.disk import Disk
from oathledger.errors import BadGroup, BadRecord, BadText, DiskCrashed, JournalError, JournalFull
from oathledger.executor import State, execute
from oathledger.groups import Group
from oathledger.logbook import Logbook
from oathledger.machine import Machine
from oathledger.replica import Replica
from oathledger.snapshot import state_text
from tests.disks import LoggingDisk, disk_with, log_of
from tests.machines import give, notarize, others, records_on, start
from tests.objects import inside, leaves
from tests.values import STRANGE, block

ANN = (-1, 1, "open ann;issue ann 100")
BOB = (-2, 1, "open bob")
PAY = (-1, 2, "pay ann bob 30")
A = block(1, 0, 1, (BOB, ANN))
B = block(2, 1, 2, ())
C = block(3, 2, 3, (PAY,))
D = block(4, 3, 4, ())


def executed(blocks):
    """The state after the commands of the blocks."""
    state = State()
    for each in blocks:
        for command in each[3]:
            execute(state, command)
    return state


class CreationTest(unittest.TestCase):
    def test_a_new_machine(self):
        _, machine = start()
        self.assertEqual((machine.ledger(), machine.epoch(), machine.tip()), ([], 0, GENESIS))
        self.assertEqual(machine.state_text(), state_text(State()))

    def test_it_only_makes_the_logbook(self):
        first, second = LoggingDisk(20), LoggingDisk(20)
        Machine(Group(1), 0, first)
        Logbook(second)
        self.assertEqual(first.taken(), second.taken())

    def test_no_member(self):
        for me in [4, -1, 10 ** 13, "0", 1.0] + STRANGE:
            disk = LoggingDisk(20)
            with self.assertRaises(BadGroup):
                Machine(Group(1), me, disk)
            self.assertEqual(disk.taken(), [])
        with self.assertRaises(BadGroup):
            Machine(Group(1), 4, Disk(2))

    def test_what_the_logbook_raises(self):
        with self.assertRaises(JournalError):
            Machine(Group(1), 0, Disk(3))
        disk = Disk(20)
        disk.arm(1)
        with self.assertRaises(DiskCrashed):
            Machine(Group(1), 0, disk)
        with self.assertRaises(BadRecord):
            Machine(Group(1), 0, disk_with(42, {0: "H 1 0", **log_of(1, [5], 2)}))
        with self.assertRaises(BadText):
            Machine(Group(1), 0, disk_with(42, {0: "H 1 0", **log_of(1, [("state", 0, "none")], 2)}))

    def test_lists_may_be_changed_by_their_caller(self):
        _, machine = start(time=5)
        give(machine, A)
        machine.ledger().clear()
        self.assertEqual(machine.ledger(), [A])


class TickTest(unittest.TestCase):
    def test_the_first_tick(self):
        for time, epoch in ((0, 0), (4, 0), (5, 1), (37, 7), (10 ** 12, 2 * 10 ** 11)):
            disk, machine = start()
            self.assertEqual(machine.tick(time), others(3, ("claim", 0)))
            self.assertEqual(machine.epoch(), epoch)
            self.assertEqual(disk.taken(), [])

    def test_an_equal_time(self):
        _, machine = start()
        self.assertEqual([machine.tick(7), machine.tick(7), machine.tick(7)], [others(3, ("claim", 0)), [], []])

    def test_ticks_within_an_epoch_and_behind_it(self):
        _, machine = start()
        found = {time: machine.tick(time) for time in range(12)}
        self.assertEqual([time for time in found if found[time]], [0, 5, 10])
        self.assertEqual(found[5], others(3, ("claim", 0)))
        self.assertEqual(machine.epoch(), 2)
        self.assertEqual(machine.tick(43), others(3, ("claim", 0)))
        self.assertEqual(machine.epoch(), 8)
        self.assertEqual(machine.tick(44), [])

    def test_times_that_are_none(self):
        for told in (None, 0, 7):
            disk, machine = start(time=told)
            before = inside(machine)
            for time in [-1, -5, 10 ** 12 + 1, 10 ** 30, "7", 7.0] + STRANGE:
                with self.assertRaises(BadGroup):
                    machine.tick(time)
                self.assertEqual(inside(machine), before)
            self.assertEqual(disk.taken(), [])

    def test_a_lesser_time(self):
        _, machine = start(time=7)
        before = inside(machine)
        for time in (0, 5, 6):
            with self.assertRaises(BadGroup):
                machine.tick(time)
            self.assertEqual(inside(machine), before)
        self.assertEqual(machine.tick(7), [])

    def test_a_tick_that_failed_is_not_the_first_one(self):
        _, machine = start()
        with self.assertRaises(BadGroup):
            machine.tick(-1)
        self.assertEqual(machine.tick(0), others(3, ("claim", 0)))

    def test_letters_ahead_of_the_first_tick_do_not_start_an_epoch(self):
        _, machine = start()
        self.assertEqual(machine.receive(0, ("claim", 0)), [])
        self.assertEqual(machine.tick(0), others(3, ("claim", 0)))

    def test_a_tick_that_starts_no_epoch_works(self):
        # Two votes wait for a third one; the own vote comes with the epoch, and the ready message in the same call.
        _, machine = start(time=0)
        machine.receive(0, ("propose", block(1)))
        machine.receive(0, ("vote", block(1)))
        machine.receive(1, ("vote", block(1)))
        expected = others(3, ("claim", 0), ("vote", block(1)), ("ready", block(1)))
        self.assertEqual(machine.tick(5), expected)


class EpochTest(unittest.TestCase):
    def with_past(self):
        """A machine that vouches, voted and is ready, without any final block."""
        disk, machine = start(time=5)
        machine.receive(-2, ("command", 1, "open bob"))
        machine.receive(-7, ("command", 1, "a"))
        blocks = [block(1), block(3, 1, 2), block(4, 3, 3)]
        for each in blocks:
            machine.tick(5 * each[0])
            machine.receive(0, ("propose", each))
            notarize(machine, each)
        machine.receive(0, ("vote", block(2)))
        notarize(machine, block(2))
        self.assertEqual(machine.ledger(), [])
        return disk, machine, blocks

    def test_the_letters_in_their_order(self):
        _, machine, blocks = self.with_past()
        expected = others(
            3, ("vouch", (-7, 1, "a")), ("vouch", (-2, 1, "open bob")), ("vote", blocks[0]), ("vote", blocks[1]),
            ("vote", blocks[2]), ("ready", blocks[0]), ("ready", block(2)), ("ready", blocks[1]), ("ready", blocks[2]),
            ("claim", 0))
        self.assertEqual(machine.tick(25), expected)
        self.assertEqual(machine.tick(26), [])
        self.assertEqual(machine.tick(30), expected)

    def test_a_new_machine_on_the_disk_repeats_the_same(self):
        disk, machine, _ = self.with_past()
        expected = machine.tick(25)
        again = Machine(Group(1), 3, copy.deepcopy(disk))
        self.assertEqual(again.epoch(), 0)
        self.assertEqual(again.tick(25), expected)
        self.assertEqual(Machine(Group(1), 3, copy.deepcopy(disk)).tick(0), expected)

    def test_nothing_is_noted_for_repetitions(self):
        disk, machine, _ = self.with_past()
        disk.taken()
        machine.tick(25)
        self.assertEqual(disk.taken(), [])

    def test_only_epochs_above_the_last_final_block(self):
        _, machine = start(time=5)
        for each in (A, B, C):
            machine.tick(5 * each[0])
            machine.receive(1, ("vouch", ANN))
            machine.receive(2, ("vouch", ANN))
            machine.receive(1, ("vouch", BOB))
            machine.receive(2, ("vouch", BOB))
            machine.receive(1, ("vouch", PAY))
            machine.receive(2, ("vouch", PAY))
            machine.receive(0, ("propose", each))
            notarize(machine, each)
        self.assertEqual(machine.ledger(), [A, B])
        self.assertEqual(machine.tick(20), others(3, ("vote", C), ("ready", C), ("claim", 2)))

    def test_the_work_behind_the_claims(self):
        # A proposal for the next epoch was there before the epoch.
        _, machine = start(time=5)
        machine.receive(0, ("propose", block(2)))
        self.assertEqual(machine.tick(9), [])
        self.assertEqual(machine.tick(10), others(3, ("claim", 0), ("vote", block(2))))
        self.assertEqual(machine.tick(15), others(3, ("vote", block(2)), ("claim", 0)))

    def test_a_leader_without_backed_commands(self):
        disk, machine = start(me=0)
        self.assertEqual(machine.tick(0), others(0, ("claim", 0)))
        self.assertEqual(machine.tick(5), others(0, ("claim", 0), ("propose", block(1)), ("vote", block(1))))
        self.assertEqual(records_on(disk), [("vote", block(1))])
        self.assertEqual(machine.tick(9), [])
        expected = others(0, ("vote", block(1)), ("claim", 0), ("propose", block(2)), ("vote", block(2)))
        self.assertEqual(machine.tick(10), expected)

    def test_a_leader_with_backed_commands(self):
        _, machine = start(me=0, time=0)
        machine.receive(-1, ("command", 1, ANN[2]))
        machine.receive(-2, ("command", 1, BOB[2]))
        for sender in (1, 2):
            machine.receive(sender, ("vouch", ANN))
        for sender in (1, 2, 3):
            machine.receive(sender, ("vouch", (-5, 4, "a")))
        machine.receive(1, ("vouch", BOB))
        proposed = block(1, commands=((-5, 4, "a"), ANN))
        expected = others(0, ("vouch", BOB), ("vouch", ANN), ("claim", 0), ("propose", proposed), ("vote", proposed))
        self.assertEqual(machine.tick(5), expected)

    def test_a_leader_that_leaps_into_its_epochs(self):
        for time, epoch in ((24, 4), (102, 20)):
            _, machine = start(me=0)
            expected = others(0, ("claim", 0), ("propose", block(epoch)), ("vote", block(epoch)))
            self.assertEqual(machine.tick(time), expected)

    def test_others_do_not_propose(self):
        for me, time in ((1, 5), (2, 24), (0, 25), (3, 25), (0, 0)):
            _, machine = start(me=me)
            self.assertEqual(machine.tick(time), others(me, ("claim", 0)))

    def test_a_leader_that_voted_in_the_epoch_does_not_propose_again(self):
        disk, machine = start(me=0)
        machine.tick(5)
        again = Machine(Group(1), 0, disk)
        self.assertEqual(again.tick(5), others(0, ("vote", block(1)), ("claim", 0)))
        expected = others(0, ("vote", block(1)), ("claim", 0), ("propose", block(2)), ("vote", block(2)))
        self.assertEqual(again.tick(10), expected)

    def test_the_work_ahead_of_the_proposal(self):
        # A new machine of a group of one counts its own old ready message first, and proposes on top of that block.
        disk, machine = start(me=0, faults=0)
        self.assertEqual([machine.tick(5), machine.tick(10)], [[], []])
        self.assertEqual((machine.ledger(), machine.tip()), ([block(1)], block(2, 1, 2)))
        again = Machine(Group(0), 0, disk)
        self.assertEqual((again.ledger(), again.tip()), ([block(1)], block(1)))
        again.tick(15)
        self.assertEqual((again.ledger(), again.tip()), ([block(1), block(2, 1, 2)], block(3, 2, 3)))

    def test_a_proposal_above_known_commands_of_the_chain(self):
        # The command is in the tip already, so the next block does not have it again.
        _, machine = start(me=0, time=0)
        for sender in (1, 2, 3):
            machine.receive(sender, ("vouch", BOB))
        machine.tick(5)
        first = block(1, commands=(BOB,))
        notarize(machine, first, (1, 2))
        letters = machine.tick(10)
        self.assertIn((1, ("propose", block(2, 1, 2))), letters)


class NoEffectTest(unittest.TestCase):
    def assert_no_effect(self, disk, machine, sender, letter):
        before = inside(machine)
        disk.taken()
        self.assertEqual(machine.receive(sender, letter), [])
        self.assertEqual(inside(machine), before)
        self.assertEqual(disk.taken(), [])

    def test_letters_that_are_none(self):
        disk, machine = start(time=5)
        letters = STRANGE + [
            (), ("vote",), ("vote", GENESIS), ("vote", A, 1), ["vote", A], ("give", 2, A), ("give", True, A), ("claim", -1),
            ("claim", 10 ** 12 + 1), ("vouch", (-1, 0, "a")), ("votes", A), ("answer", 1, "ok"), ("command", 1, "a"),
            ("propose", (1, 0, 2, ())),
        ]
        for letter in letters:
            self.assert_no_effect(disk, machine, 0, letter)

    def test_senders_that_do_not_fit(self):
        disk, machine = start(time=5)
        for letter in (("vote", A), ("claim", 0), ("vouch", ANN), ("give", 1, A), ("propose", A), ("ready", A)):
            for sender in [4, -1, 10 ** 13] + STRANGE:
                self.assert_no_effect(disk, machine, sender, letter)
        for sender in [0, 3, -101] + STRANGE:
            self.assert_no_effect(disk, machine, sender, ("command", 1, "a"))
        self.assert_no_effect(disk, machine, -1, ("answer", 1, "ok"))

    def test_the_machine_itself(self):
        for me in (0, 3):
            disk, machine = start(me=me, time=6)
            for letter in (("vouch", ANN), ("propose", A), ("vote", A), ("ready", A), ("claim", 0), ("give", 1, A)):
                self.assert_no_effect(disk, machine, me, letter)

    def test_epochs_above_the_next_one(self):
        for time in (None, 0, 4, 5, 9, 10, 27):
            epoch = 0 if time is None else time // 5
            for kind in ("propose", "vote", "ready", "give"):
                for above in (2, 3, 100):
                    disk, machine = start(time=time)
                    each = block(epoch + above)
                    letter = (kind, 1, each) if kind == "give" else (kind, each)
                    sender = Group(1).leader(epoch + above)
                    if sender != 3:
                        self.assert_no_effect(disk, machine, sender, letter)

    def test_the_next_epoch_counts(self):
        for kind in ("propose", "vote", "ready", "give"):
            _, machine = start(time=9)
            each = block(2)
            letter = (kind, 1, each) if kind == "give" else (kind, each)
            before = inside(machine)
            self.assertEqual(machine.receive(0, letter), [])
            self.assertNotEqual(inside(machine), before, kind)

    def test_a_high_claim_and_a_high_number_are_heeded(self):
        _, machine = start(time=5)
        give(machine, A)
        self.assertEqual(machine.receive(0, ("claim", 0)), [(0, ("give", 1, A))])
        self.assertEqual(machine.receive(0, ("claim", 10 ** 12)), [])
        machine.receive(0, ("vouch", (-9, 10 ** 12, "a")))
        self.assertIn((-9, 10 ** 12, "a"), leaves(machine))


class CommandTest(unittest.TestCase):
    def group_of_one(self):
        """A machine that executed the commands 1 and 2 of the client -1."""
        disk, machine = start(me=0, faults=0, time=0)
        for number, text in ((1, "open ann"), (2, "issue ann 5")):
            machine.receive(-1, ("command", number, text))
            machine.tick(10 * number - 5)
            machine.tick(10 * number)
        self.assertEqual(executed(machine.ledger()).sessions.rows(), [(-1, 2, "ok")])
        return disk, machine

    def test_the_first_command(self):
        disk, machine = start(time=5)
        self.assertEqual(machine.receive(-1, ("command", 1, "open ann")), others(3, ("vouch", (-1, 1, "open ann"))))
        self.assertEqual(records_on(disk), [("vouch", (-1, 1, "open ann"))])
        self.assertEqual(disk.taken()[-1], "sync")

    def test_where_an_own_vouch_is_there(self):
        disk, machine = start(time=5)
        machine.receive(-1, ("command", 1, "open ann"))
        disk.taken()
        before = inside(machine)
        for number, text in ((1, "open ann"), (1, "open bob"), (2, "open ann"), (9, "")):
            self.assertEqual(machine.receive(-1, ("command", number, text)), [])
        self.assertEqual(inside(machine), before)
        self.assertEqual(disk.taken(), [])
        self.assertEqual(machine.receive(-2, ("command", 1, "open ann")), others(3, ("vouch", (-2, 1, "open ann"))))

    def test_numbers_of_a_client(self):
        disk, machine = self.group_of_one()
        disk.taken()
        before = inside(machine)
        self.assertEqual(machine.receive(-1, ("command", 2, "issue ann 5")), [(-1, ("answer", 2, "ok"))])
        self.assertEqual(machine.receive(-1, ("command", 2, "another text")), [(-1, ("answer", 2, "ok"))])
        self.assertEqual(machine.receive(-1, ("command", 1, "open ann")), [])
        for number in (4, 5, 10 ** 12):
            self.assertEqual(machine.receive(-1, ("command", number, "a")), [])
        self.assertEqual(inside(machine), before)
        self.assertEqual(disk.taken(), [])
        self.assertEqual(machine.receive(-1, ("command", 3, "balance ann")), [])
        self.assertEqual(records_on(disk)[-1], ("vouch", (-1, 3, "balance ann")))

    def test_a_number_above_that_of_a_new_client(self):
        disk, machine = start(time=5)
        before = inside(machine)
        self.assertEqual(machine.receive(-1, ("command", 2, "a")), [])
        self.assertEqual(inside(machine), before)
        self.assertEqual(disk.taken(), [])

    def test_the_answer_is_that_of_the_client(self):
        _, machine = start(time=5)
        give(machine, A)
        self.assertEqual(machine.receive(-1, ("command", 1, "x")), [(-1, ("answer", 1, "ok;ok"))])
        self.assertEqual(machine.receive(-2, ("command", 1, "x")), [(-2, ("answer", 1, "ok"))])

    def test_a_command_makes_a_proposal_known(self):
        disk, machine = start(time=5)
        each = block(1, commands=(ANN,))
        self.assertEqual(machine.receive(0, ("propose", each)), [])
        self.assertEqual(machine.receive(-1, ("command", 1, ANN[2])), others(3, ("vouch", ANN), ("vote", each)))
        self.assertEqual(records_on(disk), [("vouch", ANN), ("vote", each)])
        self.assertEqual(disk.taken().count("sync"), 1)

    def test_a_command_with_another_text_does_not(self):
        _, machine = start(time=5)
        machine.receive(0, ("propose", block(1, commands=(ANN,))))
        self.assertEqual(machine.receive(-1, ("command", 1, "b")), others(3, ("vouch", (-1, 1, "b"))))

    def test_the_next_command_behind_an_executed_one(self):
        disk, machine = start(time=5)
        machine.receive(-1, ("command", 1, "another text"))
        give(machine, A)
        # The own vouch for another command with the number 1 is gone.
        self.assertEqual(machine.tick(10), others(3, ("ready", A), ("claim", 1))[-3:])
        self.assertEqual(machine.receive(-1, ("command", 2, PAY[2])), others(3, ("vouch", PAY)))
        self.assertEqual(records_on(disk)[-1], ("vouch", PAY))


class VouchTest(unittest.TestCase):
    def test_a_vouch_makes_a_proposal_known(self):
        disk, machine = start(time=5)
        each = block(1, commands=(ANN,))
        machine.receive(0, ("propose", each))
        self.assertEqual(machine.receive(1, ("vouch", ANN)), [])
        self.assertEqual(disk.taken(), [])
        self.assertEqual(machine.receive(1, ("vouch", ANN)), [])
        self.assertEqual(machine.receive(2, ("vouch", ANN)), others(3, ("vote", each)))
        self.assertEqual(records_on(disk), [("vote", each)])

    def test_a_vouch_for_an_executed_number_does_not_count(self):
        _, machine = start(time=5)
        give(machine, A)
        before = inside(machine)
        for sender in (0, 1, 2):
            self.assertEqual(machine.receive(sender, ("vouch", (-1, 1, "x"))), [])
        self.assertEqual(inside(machine), before)

    def test_vouches_are_not_passed_on(self):
        _, machine = start(time=0)
        for sender in (0, 1, 2):
            machine.receive(sender, ("vouch", ANN))
        self.assertEqual(machine.tick(5), others(3, ("claim", 0)))


class MessageTest(unittest.TestCase):
    def test_a_proposal(self):
        disk, machine = start(time=5)
        self.assertEqual(machine.receive(1, ("propose", block(1))), [])
        self.assertEqual(disk.taken(), [])
        self.assertEqual(machine.receive(0, ("propose", block(1))), others(3, ("vote", block(1))))
        self.assertEqual(records_on(disk), [("vote", block(1))])
        self.assertEqual(machine.receive(0, ("propose", block(1, commands=(ANN,)))), [])

    def test_votes(self):
        disk, machine = start(time=5)
        self.assertEqual(machine.receive(0, ("vote", A)) + machine.receive(1, ("vote", A)), [])
        self.assertEqual(disk.taken(), [])
        self.assertEqual(machine.receive(2, ("vote", A)), others(3, ("ready", A)))
        self.assertEqual(records_on(disk), [("ready", A)])

    def test_ready_messages(self):
        disk, machine = start(time=5)
        self.assertEqual(machine.receive(0, ("ready", A)), [])
        self.assertEqual(machine.tip(), GENESIS)
        self.assertEqual(machine.receive(1, ("ready", A)), others(3, ("ready", A)))
        self.assertEqual(machine.tip(), A)
        self.assertEqual(records_on(disk), [("ready", A)])

    def test_messages_of_a_repeating_sender(self):
        _, machine = start(time=5)
        for _ in range(3):
            for kind in ("vote", "ready"):
                self.assertEqual(machine.receive(1, (kind, A)), [])

    def test_a_vote_and_its_ready_message_in_one_call(self):
        disk, machine = start(time=5)
        machine.receive(1, ("vote", block(1)))
        machine.receive(2, ("vote", block(1)))
        self.assertEqual(machine.receive(0, ("propose", block(1))), others(3, ("vote", block(1)), ("ready", block(1))))
        self.assertEqual(records_on(disk), [("vote", block(1)), ("ready", block(1))])
        self.assertEqual(disk.taken().count("sync"), 1)


class ClaimTest(unittest.TestCase):
    def test_each_height(self):
        disk, machine = start(time=20)
        for each in (A, B, C):
            give(machine, each)
        disk.taken()
        before = inside(machine)
        every = [("give", each[2], each) for each in (A, B, C)]
        for height in range(6):
            for sender in (0, 2):
                expected = [(sender, letter) for letter in every[height:]]
                self.assertEqual(machine.receive(sender, ("claim", height)), expected)
        self.assertEqual(inside(machine), before)
        self.assertEqual(disk.taken(), [])

    def test_no_final_block(self):
        _, machine = start(time=20)
        notarize(machine, A)
        self.assertEqual(machine.receive(0, ("claim", 0)), [])


class GiveTest(unittest.TestCase):
    def test_a_give_counts_as_a_ready_message(self):
        disk, machine = start(time=5)
        self.assertEqual(machine.receive(0, ("ready", A)), [])
        self.assertEqual(machine.receive(1, ("give", 1, A)), others(3, ("ready", A)))
        self.assertEqual((machine.tip(), machine.ledger()), (A, []))
        self.assertEqual(records_on(disk), [("ready", A)])

    def test_one_too_few_and_just_enough(self):
        disk, machine = start(time=5)
        self.assertEqual(machine.receive(0, ("give", 1, A)), [])
        self.assertEqual(machine.receive(0, ("give", 1, A)), [])
        self.assertEqual(machine.ledger(), [])
        self.assertEqual(disk.taken(), [])
        answers = [(-2, ("answer", 1, "ok")), (-1, ("answer", 1, "ok;ok"))]
        self.assertEqual(machine.receive(2, ("give", 1, A)), others(3, ("ready", A)) + answers)
        self.assertEqual((machine.ledger(), machine.tip()), ([A], A))
        self.assertEqual(machine.state_text(), state_text(executed([A])))
        self.assertEqual(records_on(disk), [("ready", A), ("final", A)])
        self.assertEqual(disk.taken().count("sync"), 1)

    def test_gives_of_the_ledger_have_no_effect(self):
        _, machine = start(time=5)
        give(machine, A)
        before = inside(machine)
        other = block(1)
        for each in (A, other):
            self.assertEqual(give(machine, each, (0, 1, 2)), [])
        self.assertEqual(inside(machine), before)

    def test_what_was_given_is_dropped(self):
        _, machine = start(time=5)
        other = block(1)
        machine.receive(2, ("give", 1, other))
        self.assertIn(other, leaves(machine))
        give(machine, A)
        self.assertEqual(machine.ledger(), [A])
        self.assertNotIn(other, leaves(machine))

    def test_vouches_of_executed_commands_are_dropped(self):
        _, machine = start(time=5)
        gone = [(-1, 1, "x"), (-2, 1, "y")]
        machine.receive(-1, ("command", 1, "x"))
        machine.receive(2, ("vouch", gone[1]))
        machine.receive(0, ("vouch", (-2, 2, "z")))
        give(machine, A)
        for command in gone:
            self.assertNotIn((0, command), [(0, each) for each in inside_vouches(machine)])
        self.assertIn((-2, 2, "z"), inside_vouches(machine))

    def test_several_blocks_in_one_call(self):
        disk, machine = start(time=20)
        sent = []
        for each in (C, B):
            sent.extend(give(machine, each))
        self.assertEqual(sent, others(3, ("ready", C), ("ready", B)))
        self.assertEqual((machine.ledger(), machine.tip()), ([], GENESIS))
        machine.receive(0, ("give", 1, A))
        disk.taken()
        # A connects B and C, so that A and B are final; C is adopted behind them.
        answers = [(-2, ("answer", 1, "ok")), (-1, ("answer", 1, "ok;ok")), (-1, ("answer", 2, "ok"))]
        self.assertEqual(machine.receive(1, ("give", 1, A)), others(3, ("ready", A)) + answers)
        self.assertEqual(machine.ledger(), [A, B, C])
        self.assertEqual(records_on(disk)[2:], [("ready", A), ("final", A), ("final", B), ("final", C)])
        self.assertEqual(disk.taken().count("sync"), 1)

    def test_an_adopted_block_makes_others_final(self):
        # Ready messages of two machines and the own one notarize B, C and D, which wait for A. Since a ready message
        # for another block of epoch 1 was sent, A is not notarized; it is adopted alone.
        other = block(1)
        _, machine = start(time=20)
        for sender in (0, 1, 2):
            machine.receive(sender, ("vote", other))
        for each in (B, C, D):
            notarize(machine, each)
        self.assertEqual(machine.ledger(), [])
        machine.receive(0, ("give", 1, A))
        answers = [(-2, ("answer", 1, "ok")), (-1, ("answer", 1, "ok;ok")), (-1, ("answer", 2, "ok"))]
        self.assertEqual(machine.receive(1, ("give", 1, A)), answers)
        self.assertEqual(machine.ledger(), [A, B, C])
        self.assertEqual(machine.tip(), D)

    def test_the_order_of_all_letters_of_a_call(self):
        # The own ready message for another block of epoch 1 keeps A from being notarized; once A is adopted, the
        # proposal on top of it gets the vote, ahead of the answers to the commands of A.
        other, proposed = block(1), block(2, 1, 2)
        disk, machine = start(time=10)
        for sender in (0, 1, 2):
            machine.receive(sender, ("vote", other))
        self.assertEqual(machine.receive(0, ("propose", proposed)), [])
        machine.receive(1, ("give", 1, A))
        disk.taken()
        answers = [(-2, ("answer", 1, "ok")), (-1, ("answer", 1, "ok;ok"))]
        self.assertEqual(machine.receive(2, ("give", 1, A)), others(3, ("vote", proposed)) + answers)
        self.assertEqual(records_on(disk), [("ready", other), ("vote", proposed), ("final", A)])
        self.assertEqual(disk.taken().count("sync"), 1)

    def test_a_give_that_waits_for_the_height(self):
        _, machine = start(time=20)
        self.assertEqual(give(machine, C), others(3, ("ready", C)))
        self.assertEqual(machine.ledger(), [])
        give(machine, A)
        self.assertEqual(machine.ledger(), [A])
        give(machine, B)
        self.assertEqual(machine.ledger(), [A, B, C])


def inside_vouches(machine):
    """The commands that a machine holds outside of its logbook."""
    parts = {name: value for name, value in vars(machine).items() if name != "_logbook" and name != "_replica"}
    return leaves(parts)


class FinalTest(unittest.TestCase):
    def test_blocks_become_final_by_the_chain(self):
        disk, machine = start(time=20)
        notarize(machine, A)
        self.assertEqual(machine.ledger(), [])
        letters = others(3, ("ready", B)) + [(-2, ("answer", 1, "ok")), (-1, ("answer", 1, "ok;ok"))]
        self.assertEqual(notarize(machine, B), letters)
        self.assertEqual((machine.ledger(), machine.tip()), ([A], B))
        self.assertEqual(machine.state_text(), state_text(executed([A])))
        self.assertEqual(records_on(disk), [("ready", A), ("ready", B), ("final", A)])

    def test_several_at_once(self):
        disk, machine = start(time=20)
        for each in (B, C, D):
            notarize(machine, each)
        self.assertEqual(machine.ledger(), [])
        answers = [(-2, ("answer", 1, "ok")), (-1, ("answer", 1, "ok;ok")), (-1, ("answer", 2, "ok"))]
        self.assertEqual(notarize(machine, A), others(3, ("ready", A)) + answers)
        self.assertEqual(machine.ledger(), [A, B, C])
        self.assertEqual(records_on(disk)[-4:], [("ready", A), ("final", A), ("final", B), ("final", C)])

    def test_recovery(self):
        disk, machine = start(time=20)
        machine.receive(-3, ("command", 1, "q"))
        for each in (A, B, C):
            notarize(machine, each)
        again = Machine(Group(1), 3, disk)
        self.assertEqual((again.ledger(), again.epoch(), again.tip()), ([A, B], 0, B))
        self.assertEqual(again.state_text(), state_text(executed([A, B])))
        self.assertEqual(again.tick(0), others(3, ("vouch", (-3, 1, "q")), ("ready", C), ("claim", 2)))
        # Its own vouch is there again, and what others said is not.
        self.assertEqual(again.receive(-3, ("command", 1, "other")), [])
        self.assertEqual(again.receive(-1, ("command", 1, "x")), [(-1, ("answer", 1, "ok;ok"))])
        again.tick(15)
        self.assertEqual(again.receive(0, ("ready", C)), [])
        self.assertEqual(again.tip(), B)
        again.receive(1, ("ready", C))
        self.assertEqual(again.tip(), C)
        again.tick(20)
        self.assertEqual(notarize(again, D), others(3, ("ready", D)) + [(-1, ("answer", 2, "ok"))])
        self.assertEqual(again.ledger(), [A, B, C])

    def test_what_is_forgotten_by_a_new_machine(self):
        disk, machine = start(time=5)
        machine.receive(0, ("ready", A))
        machine.receive(1, ("vote", A))
        machine.receive(0, ("propose", A))
        machine.receive(2, ("vouch", ANN))
        machine.receive(2, ("give", 1, block(1)))
        again = Machine(Group(1), 3, disk)
        for each in (A, ANN, block(1)):
            self.assertIn(each, leaves(machine))
            self.assertNotIn(each, leaves(again))
        again.tick(5)
        self.assertEqual(again.receive(1, ("ready", A)), [])
        self.assertEqual(again.receive(0, ("vouch", ANN)), [])
        self.assertEqual(again.receive(1, ("give", 1, block(1))), [])

    def test_old_votes_and_the_floor_come_back(self):
        # A mark is all that is left of a vote in epoch 6 for a block of height 4.
        records = [("mark", 6, 3), ("final", A)]
        disk = disk_with(402, {0: "H 1 0", **log_of(1, records, 2)})
        machine = Machine(Group(1), 3, disk)
        machine.tick(30)
        self.assertEqual(machine.receive(1, ("propose", block(6, 1, 2))), [])
        machine.tick(35)
        # The parent is lower than the floor.
        self.assertEqual(machine.receive(1, ("propose", block(7, 1, 2))), [])
        for each in (B, C):
            notarize(machine, each)
        self.assertEqual(machine.receive(2, ("propose", block(7, 3, 4))), [])
        machine.tick(40)
        self.assertEqual(machine.receive(1, ("propose", block(8, 3, 4))), others(3, ("vote", block(8, 3, 4))))

    def test_vouches_above_the_last_executed_number_alone(self):
        # A checkpoint with a later number than the blocks have, which no machine writes, shows which number counts.
        state = State()
        execute(state, (-1, 5, "open ann"))
        text = state_text(state)
        for number in (3, 5):
            records = [("state", 0, text), ("vouch", (-1, number, "a")), ("vouch", (-2, 1, "b"))]
            machine = Machine(Group(1), 3, disk_with(402, {0: "H 1 0", **log_of(1, records, 2)}))
            self.assertEqual(machine.state_text(), text)
            self.assertEqual(machine.tick(0), others(3, ("vouch", (-2, 1, "b")), ("claim", 0)))
            self.assertEqual(machine.receive(-1, ("command", 6, "c")), others(3, ("vouch", (-1, 6, "c"))))
        records = [("state", 0, text), ("vouch", (-1, 6, "a")), ("vouch", (-2, 1, "b"))]
        machine = Machine(Group(1), 3, disk_with(402, {0: "H 1 0", **log_of(1, records, 2)}))
        self.assertEqual(machine.tick(0), others(3, ("vouch", (-2, 1, "b")), ("vouch", (-1, 6, "a")), ("claim", 0)))
        self.assertEqual(machine.receive(-1, ("command", 6, "c")), [])


class CheckpointTest(unittest.TestCase):
    def chain(self, count):
        """That many blocks of consecutive epochs, with a command in each."""
        return [block(epoch, epoch - 1, epoch, ((-1, epoch, f"put k{epoch} v"),)) for epoch in range(1, count + 1)]

    def test_behind_the_heights_8_and_16_alone(self):
        disk, machine = start(time=100)
        blocks = self.chain(17)
        expected = []
        for each in blocks:
            give(machine, each)
            expected.extend([("ready", each), ("final", each)])
            if each[2] in (8, 16):
                expected.append(("state", each[2], state_text(executed(blocks[:each[2]]))))
            self.assertEqual(records_on(disk), expected)
        again = Machine(Group(1), 3, disk)
        self.assertEqual((again.ledger(), again.state_text()), (blocks, machine.state_text()))

    def test_several_blocks_in_one_call(self):
        disk, machine = start(time=100)
        blocks = self.chain(10)
        for each in blocks[:0:-1]:
            give(machine, each)
        self.assertEqual(machine.ledger(), [])
        give(machine, blocks[0])
        self.assertEqual(machine.ledger(), blocks)
        expected = [("ready", blocks[0])] + [("final", each) for each in blocks]
        expected.insert(9, ("state", 8, state_text(executed(blocks[:8]))))
        self.assertEqual(records_on(disk)[9:], expected)

    def test_a_state_without_a_text(self):
        # No commands lead to such a state, so its replica is told to have none.
        disk, machine = start(time=100)
        blocks = self.chain(9)
        with unittest.mock.patch.object(Replica, "state_text", side_effect=BadText()) as asked:
            for each in blocks:
                give(machine, each)
            self.assertEqual(asked.call_count, 1)
        self.assertEqual(machine.ledger(), blocks)
        self.assertEqual([record for record in records_on(disk) if record[0] == "state"], [])
        self.assertEqual(disk.pending(), [])
        self.assertEqual(Machine(Group(1), 3, disk).state_text(), state_text(executed(blocks)))

    def test_a_checkpoint_that_the_logbook_refuses(self):
        note = Logbook.note
        for error in (BadText, JournalFull):
            def refuse(book, record):
                if record[0] == "state":
                    raise error()
                note(book, record)

            disk, machine = start(time=100)
            with unittest.mock.patch.object(Logbook, "note", refuse):
                letters = [give(machine, each) for each in self.chain(9)]
            self.assertEqual((machine.ledger(), letters[7][-1][0]), (self.chain(9), -1))
            self.assertEqual([record[0] for record in records_on(disk)], ["ready", "final"] * 9)

    def run_of_one(self, size):
        """What the machine of a group of one has behind height 9, on a disk of this size."""
        disk, machine = start(me=0, faults=0, size=size, time=0)
        texts = [";".join([f"put {key}{number} " + "v" * 36 for key in "abcde"]) for number in range(3)]
        for number, text in enumerate(texts, start=1):
            machine.receive(-1, ("command", number, text))
            machine.tick(10 * number - 5)
            machine.tick(10 * number)
        for time in range(35, 55, 5):
            machine.tick(time)
        return disk, machine

    def test_a_checkpoint_that_has_no_room(self):
        outcomes = []
        ledger = self.run_of_one(1000)[1].ledger()
        self.assertGreater(len(ledger), 8)
        for size in range(60, 140, 2):
            try:
                disk, machine = self.run_of_one(size)
            except JournalFull:
                outcomes.append("full")
                continue
            self.assertEqual(machine.ledger(), ledger)
            self.assertEqual(disk.pending(), [])
            states = [record for record in records_on(disk) if record[0] == "state"]
            self.assertIn(states, ([], [("state", 8, state_text(executed(ledger[:8])))]))
            outcomes.append("kept" if states else "without")
            again = Machine(Group(0), 0, disk)
            self.assertEqual((again.ledger(), again.state_text()), (ledger, machine.state_text()))
        self.assertEqual(sorted(set(outcomes)), ["full", "kept", "without"])


class FullTest(unittest.TestCase):
    def test_journal_full_passes_through(self):
        disk, machine = start(size=8, time=5)
        with self.assertRaises(JournalFull):
            for number in range(1, 9):
                machine.receive(-number, ("command", 1, "a text that takes some sectors of the disk"))
        disk, machine = start(me=0, size=4)
        with self.assertRaises(JournalFull):
            machine.tick(5)
            machine.tick(10)
        self.assertEqual(Machine(Group(1), 0, disk).ledger(), [])


class FlushTest(unittest.TestCase):
    def test_one_sync_a_call_that_notes_something(self):
        disk, machine = start(me=0, time=0)
        calls = [
            (lambda: machine.receive(-1, ("command", 1, ANN[2])), 1), (lambda: machine.receive(1, ("vouch", ANN)), 0),
            (lambda: machine.tick(5), 1), (lambda: machine.tick(6), 0), (lambda: machine.receive(1, ("vote", block(1))), 0),
            (lambda: machine.receive(2, ("vote", block(1))), 1), (lambda: machine.receive(2, ("claim", 0)), 0),
            (lambda: machine.receive(-1, ("command", 1, ANN[2])), 0), (lambda: machine.receive(1, ("ready", block(1))), 0),
            (lambda: machine.receive(2, ("ready", block(1))), 0), (lambda: machine.tick(10), 1),
            (lambda: machine.receive(3, ("propose", block(2))), 0), (lambda: machine.receive(9, ("claim", 0)), 0),
        ]
        for call, syncs in calls:
            disk.taken()
            call()
            operations = disk.taken()
            self.assertEqual(operations.count("sync"), syncs)
            self.assertEqual(operations[-1:], ["sync"] * syncs)
            self.assertEqual(disk.pending(), [])


class BoundTest(unittest.TestCase):
    def test_liars_cannot_fill_the_memory(self):
        # Whatever three others repeat and vary, what is held of them stops to grow.
        _, machine = start(time=50)
        sizes = []
        for turn in range(6):
            for sender in (0, 1, 2):
                for epoch in range(1, 14):
                    each = block(epoch, commands=((-1, turn + 1, f"{sender}"),))
                    for letter in (("vote", each), ("ready", each), ("give", 1, each), ("propose", each)):
                        machine.receive(sender, letter)
                for client in range(-100, 0):
                    machine.receive(sender, ("vouch", (client, turn + 1, f"{turn} {sender}")))
            sizes.append(len(leaves(machine)))
        self.assertEqual(sizes[1:], sizes[:-1])
        self.assertEqual(machine.ledger(), [])


if __name__ == "__main__":
    unittest.main()
