"""Points 650 and 654 to 661: the judge."""

import random
import unittest

from oathledger.executor import State, execute
from oathledger.history import History
from oathledger.judge import (agreement_fault, answer_fault, chain_fault, judge, ledger_commands, lost_fault, order_fault,
                              validity_fault)
from tests.values import block

ANN = (-1, 1, "open ann;issue ann 100")
BOB = (-2, 1, "open bob")
PAY = (-1, 2, "pay ann bob 30")
GET = (-2, 2, "balance bob")
A = block(1, 0, 1, (BOB, ANN))
B = block(2, 1, 2)
C = block(4, 2, 3, (PAY,))
D = block(5, 4, 4, (GET,))
LEDGER = [A, B, C, D]
COMMANDS = [BOB, ANN, PAY, GET]
ACCEPTED = [(-2, 1, "ok"), (-1, 1, "ok;ok"), (-1, 2, "ok"), (-2, 2, "30")]


def call(command, time=0):
    return ("call", time) + command


def accept(client, number, answer="ok", time=0):
    return ("accept", time, client, number, answer)


def good_history():
    """A history of the ledger without a fault."""
    history = History()
    for event in (call(BOB), call(ANN), ("final", 1, 0, A), ("final", 1, 2, A), accept(-1, 1, "ok;ok", 1), call(PAY, 1),
                  ("final", 2, 0, B), ("final", 2, 0, C), ("crash", 3, 2), accept(-1, 2, "ok", 3), accept(-2, 1, "ok", 3),
                  call(GET, 3), ("final", 4, 0, D), ("final", 4, 2, A), accept(-2, 2, "30", 4)):
        history.add(event)
    return history


class CommandsTest(unittest.TestCase):
    def test_the_order(self):
        self.assertEqual(ledger_commands(LEDGER), COMMANDS)
        self.assertEqual(ledger_commands([]), [])
        self.assertEqual(ledger_commands([B]), [])
        self.assertEqual(ledger_commands([D, A, A]), [GET, BOB, ANN, BOB, ANN])


class AgreementTest(unittest.TestCase):
    def test_no_fault(self):
        for ledgers in ([], [[]], [LEDGER], [[], []], [LEDGER, LEDGER], [LEDGER[:2], LEDGER, [], LEDGER[:1], list(LEDGER)]):
            self.assertIsNone(agreement_fault(ledgers))

    def test_each_height(self):
        for at in range(4):
            other = LEDGER[:at] + [block(9, 8, at + 1) if at else block(9)] + LEDGER[at + 1:]
            self.assertEqual(agreement_fault([LEDGER, other]), ("agreement", 0, 1, at + 1))
            self.assertEqual(agreement_fault([LEDGER[:at + 1], other]), ("agreement", 0, 1, at + 1))
            self.assertEqual(agreement_fault([other[:at + 1], LEDGER]), ("agreement", 0, 1, at + 1))
            self.assertIsNone(agreement_fault([LEDGER[:at], other]))

    def test_the_least_height(self):
        other = [A, block(3, 1, 2), block(9, 3, 3), D]
        self.assertEqual(agreement_fault([LEDGER, other]), ("agreement", 0, 1, 2))

    def test_the_first_pair(self):
        second, third = [A, block(3, 1, 2)], [block(2)]
        self.assertEqual(agreement_fault([LEDGER, second, third]), ("agreement", 0, 1, 2))
        self.assertEqual(agreement_fault([LEDGER, [], third, second]), ("agreement", 0, 2, 1))
        self.assertEqual(agreement_fault([[A], LEDGER, second]), ("agreement", 1, 2, 2))
        self.assertEqual(agreement_fault([[], [A], LEDGER, second, third]), ("agreement", 1, 4, 1))
        self.assertEqual(agreement_fault([second, LEDGER, second]), ("agreement", 0, 1, 2))

    def test_lists_that_are_no_ledgers(self):
        self.assertIsNone(agreement_fault([[C, C], [C]]))
        self.assertEqual(agreement_fault([[C, D], [C, A]]), ("agreement", 0, 1, 2))


class ChainTest(unittest.TestCase):
    def test_no_fault(self):
        for count in range(5):
            self.assertIsNone(chain_fault(LEDGER[:count]))

    def test_a_parent_of_another_epoch(self):
        for at in range(1, 4):
            epoch, parent, height, commands = LEDGER[at]
            wrong = LEDGER[:at] + [(epoch + 9, parent + 9, height, commands)] + LEDGER[at + 1:]
            self.assertEqual(chain_fault(wrong), ("chain", at + 1))

    def test_the_first_one(self):
        self.assertEqual(chain_fault([A, block(3, 2, 2), block(9, 8, 3), D]), ("chain", 2))

    def test_lists_that_are_no_ledgers(self):
        # The height is that of the block, wherever it stands in the list.
        self.assertEqual(chain_fault([block(9, 8, 2), C]), ("chain", 2))
        self.assertEqual(chain_fault([B]), ("chain", 2))
        self.assertEqual(chain_fault([A, C, D]), ("chain", 3))
        self.assertEqual(chain_fault([A, B, block(4, 2, 2)]), ("chain", 2))
        self.assertEqual(chain_fault([A, A]), ("chain", 1))


class ValidityTest(unittest.TestCase):
    def test_no_fault(self):
        self.assertIsNone(validity_fault([], []))
        self.assertIsNone(validity_fault([], COMMANDS))
        self.assertIsNone(validity_fault([B], []))
        self.assertIsNone(validity_fault(LEDGER, COMMANDS))
        self.assertIsNone(validity_fault(LEDGER, COMMANDS[::-1] + [(-9, 1, "a")]))

    def test_unknown(self):
        for place, command in enumerate(COMMANDS):
            rest = [each for each in COMMANDS if each != command]
            self.assertEqual(validity_fault(LEDGER, rest), ("unknown", place))
            for other in ((command[0], command[1], "x"), (command[0], 7, command[2]), (-9,) + command[1:]):
                self.assertEqual(validity_fault(LEDGER, rest + [other]), ("unknown", place))
        self.assertEqual(validity_fault(LEDGER, []), ("unknown", 0))

    def test_again(self):
        later = block(6, 5, 5, (ANN,))
        self.assertEqual(validity_fault(LEDGER + [later], COMMANDS), ("again", 4))
        self.assertEqual(validity_fault(LEDGER + [block(6, 5, 5, (PAY,))], COMMANDS), ("again", 4))
        other = (-1, 2, "x")
        self.assertEqual(validity_fault(LEDGER + [block(6, 5, 5, (other,))], COMMANDS + [other]), ("again", 4))

    def test_numbers_that_are_left_out_are_no_fault(self):
        far = (-1, 9, "x")
        self.assertIsNone(validity_fault([block(1, 0, 1, (far,))], [far]))

    def test_a_lesser_number(self):
        first, second = (-3, 5, "a"), (-3, 4, "b")
        ledger = [block(1, 0, 1, (first,)), block(2, 1, 2, (second,))]
        self.assertEqual(validity_fault(ledger, [first, second]), ("again", 1))
        third = (-3, 5, "c")
        ledger = [block(1, 0, 1, (second,)), block(2, 1, 2, (first,)), block(3, 2, 3, (third,))]
        self.assertEqual(validity_fault(ledger, [first, second, third]), ("again", 2))

    def test_which_comes_first(self):
        again = [block(1, 0, 1, (ANN,)), block(2, 1, 2, (ANN,))]
        self.assertEqual(validity_fault(again, []), ("unknown", 0))
        self.assertEqual(validity_fault(again + [block(3, 2, 3, (GET,))], [ANN]), ("again", 1))
        other = (-1, 1, "x")
        self.assertEqual(validity_fault([block(1, 0, 1, (ANN,)), block(2, 1, 2, (other,))], [ANN]), ("unknown", 1))


class AnswerTest(unittest.TestCase):
    def test_no_fault(self):
        self.assertIsNone(answer_fault([], []))
        self.assertIsNone(answer_fault(LEDGER, []))
        self.assertIsNone(answer_fault(LEDGER, ACCEPTED))
        self.assertIsNone(answer_fault(LEDGER, ACCEPTED[::-1] + ACCEPTED))

    def test_missing(self):
        self.assertEqual(answer_fault([], ACCEPTED), ("missing", -2, 1))
        self.assertEqual(answer_fault(LEDGER[:3], ACCEPTED), ("missing", -2, 2))
        self.assertEqual(answer_fault(LEDGER, ACCEPTED + [(-2, 3, "ok")]), ("missing", -2, 3))
        self.assertEqual(answer_fault(LEDGER, [(-3, 1, "ok")]), ("missing", -3, 1))

    def test_another_answer(self):
        for index, (client, number, _) in enumerate(ACCEPTED):
            accepted = ACCEPTED[:index] + [(client, number, "other")] + ACCEPTED[index + 1:]
            self.assertEqual(answer_fault(LEDGER, accepted), ("answer", client, number))

    def test_which_comes_first(self):
        wrong = [(-2, 2, "31"), (-5, 1, "ok")]
        self.assertEqual(answer_fault(LEDGER, wrong), ("answer", -2, 2))
        self.assertEqual(answer_fault(LEDGER, wrong[::-1]), ("missing", -5, 1))

    def test_the_first_command_of_a_number_counts(self):
        ledger = LEDGER + [block(6, 5, 5, ((-2, 3, "balance bob"),)), block(7, 6, 6, ((-2, 2, "balance ann"),))]
        self.assertIsNone(answer_fault(ledger, [(-2, 2, "30")]))
        self.assertEqual(answer_fault(ledger, [(-2, 2, "stale")]), ("answer", -2, 2))
        ledger = [A, block(2, 1, 2, ((-1, 1, "x"),))]
        self.assertIsNone(answer_fault(ledger, [(-1, 1, "ok;ok")]))

    def test_the_order_of_the_ledger(self):
        swapped = [block(1, 0, 1, (PAY,)), block(2, 1, 2, (ANN,))]
        self.assertIsNone(answer_fault(swapped, [(-1, 2, "refused 0 missing"), (-1, 1, "stale")]))


class OrderTest(unittest.TestCase):
    def test_no_fault(self):
        self.assertIsNone(order_fault([], []))
        self.assertIsNone(order_fault(LEDGER, []))
        self.assertIsNone(order_fault(LEDGER, good_history().events()))
        self.assertIsNone(order_fault([], good_history().events()))

    def test_a_fault(self):
        self.assertEqual(order_fault(LEDGER, [accept(-2, 2), call(BOB)]), ("order", -2, 2, -2, 1))
        self.assertEqual(order_fault(LEDGER, [accept(-1, 1), call(BOB)]), ("order", -1, 1, -2, 1))
        self.assertIsNone(order_fault(LEDGER, [accept(-2, 1), call(ANN)]))
        self.assertIsNone(order_fault(LEDGER, [call(BOB), accept(-2, 2)]))
        self.assertIsNone(order_fault(LEDGER, [accept(-2, 2), call(GET)]))

    def test_the_times_do_not_count(self):
        self.assertIsNone(order_fault(LEDGER, [call(BOB, 9), accept(-2, 2, "ok", 1)]))
        self.assertEqual(order_fault(LEDGER, [accept(-2, 2, "ok", 5), call(BOB, 5)]), ("order", -2, 2, -2, 1))
        self.assertEqual(order_fault(LEDGER, [accept(-2, 2, "ok", 9), call(BOB, 1)]), ("order", -2, 2, -2, 1))

    def test_the_earliest_call(self):
        events = [accept(-1, 2), call(GET), call(ANN), accept(-2, 2), call(BOB)]
        self.assertEqual(order_fault(LEDGER, events), ("order", -1, 2, -1, 1))

    def test_the_greatest_place(self):
        for events in ([accept(-1, 2), accept(-2, 2), accept(-1, 1)], [accept(-2, 2), accept(-1, 1), accept(-1, 2)]):
            self.assertEqual(order_fault(LEDGER, events + [call(BOB)]), ("order", -2, 2, -2, 1))
        self.assertEqual(order_fault(LEDGER, [accept(-1, 1), accept(-1, 2), call(BOB), accept(-2, 2)]), ("order", -1, 2, -2, 1))

    def test_commands_that_are_not_in_the_ledger(self):
        self.assertIsNone(order_fault(LEDGER[:1], [accept(-2, 2), accept(-1, 2), call(ANN)]))
        self.assertIsNone(order_fault(LEDGER[:1], [accept(-1, 1), call(GET)]))
        self.assertEqual(order_fault(LEDGER[:1], [accept(-2, 2), accept(-1, 1), call(GET), call(BOB)]),
                         ("order", -1, 1, -2, 1))

    def test_other_events_do_not_matter(self):
        events = [("crash", 0, 1), accept(-2, 2), ("final", 0, 1, A), call(BOB), ("final", 0, 1, B)]
        self.assertEqual(order_fault(LEDGER, events), ("order", -2, 2, -2, 1))
        self.assertIsNone(order_fault(LEDGER, [("final", 0, 1, A), ("crash", 0, 1)]))

    def test_the_place_of_a_number_is_that_of_its_first_command(self):
        ledger = LEDGER + [block(6, 5, 5, (BOB,))]
        self.assertIsNone(order_fault(ledger, [accept(-2, 1), call(GET)]))
        self.assertEqual(order_fault(ledger, [accept(-2, 2), call(BOB)]), ("order", -2, 2, -2, 1))

    def test_against_all_pairs(self):
        rng = random.Random(9)
        found = 0
        for _ in range(400):
            events = []
            for _ in range(8):
                command = rng.choice(COMMANDS + [(-5, 1, "a")])
                events.append(rng.choice([call(command), accept(command[0], command[1]), ("crash", 0, 1)]))
            order = rng.sample(COMMANDS, rng.randrange(5))
            ledger = [block(at + 1, at, at + 1, (command,)) for at, command in enumerate(order)]
            names = [command[:2] for command in order]
            best = None
            for at, event in enumerate(events):
                if event[0] != "call" or event[2:4] not in names:
                    continue
                before = [names.index(each[2:4]) for each in events[:at] if each[0] == "accept" and each[2:4] in names]
                if before and max(before) > names.index(event[2:4]):
                    best = ("order",) + names[max(before)] + event[2:4]
                    break
            self.assertEqual(order_fault(ledger, events), best)
            found += best is not None
        self.assertGreater(found, 50)


class LostTest(unittest.TestCase):
    def test_no_fault(self):
        self.assertIsNone(lost_fault([], []))
        self.assertIsNone(lost_fault([], LEDGER))
        self.assertIsNone(lost_fault(good_history().events(), LEDGER))
        self.assertIsNone(lost_fault([("crash", 0, 1), call(ANN), accept(-1, 1)], []))

    def test_no_block_of_the_height(self):
        for count in range(4):
            events = [("final", 0, 5, each) for each in LEDGER]
            self.assertEqual(lost_fault(events, LEDGER[:count]), ("lost", 5, count + 1))

    def test_another_block(self):
        for at in range(4):
            epoch, parent, height, _ = LEDGER[at]
            other = (epoch, parent, height, ((-9, 1, "x"),))
            self.assertEqual(lost_fault([("final", 0, 4, other)], LEDGER), ("lost", 4, at + 1))
            self.assertIsNone(lost_fault([("final", 0, 4, LEDGER[at])], LEDGER))

    def test_the_first_event(self):
        other = block(9)
        events = [("final", 0, 1, A), ("final", 0, 2, block(9, 5, 5)), ("final", 0, 0, other)]
        self.assertEqual(lost_fault(events, LEDGER), ("lost", 2, 5))
        self.assertEqual(lost_fault(events[::-1], LEDGER), ("lost", 0, 1))

    def test_finals_ahead_of_a_crash_count(self):
        self.assertEqual(lost_fault([("final", 0, 1, A), ("crash", 0, 1)], []), ("lost", 1, 1))


class JudgeTest(unittest.TestCase):
    def test_no_fault(self):
        self.assertEqual(judge(History(), []), [])
        self.assertEqual(judge(History(), [[], []]), [])
        self.assertEqual(judge(good_history(), [LEDGER]), [])
        self.assertEqual(judge(good_history(), [[], LEDGER[:2], LEDGER, LEDGER]), [])

    def test_no_ledger(self):
        self.assertEqual(judge(good_history(), []), [("missing", -1, 1), ("lost", 0, 1)])

    def test_the_first_of_the_longest_ledgers(self):
        wrong = [A, B, C, block(9, 4, 4)]
        self.assertEqual(judge(good_history(), [LEDGER[:3], LEDGER, wrong]), [("agreement", 1, 2, 4)])
        self.assertEqual(judge(good_history(), [LEDGER[:3], wrong, LEDGER]),
                         [("agreement", 1, 2, 4), ("missing", -2, 2), ("lost", 0, 4)])

    def test_each_fault_alone(self):
        history = good_history()
        self.assertEqual(judge(history, [LEDGER, [A, block(3, 1, 2)]]), [("agreement", 0, 1, 2)])
        history = History()
        self.assertEqual(judge(history, [[A, B, block(5, 4, 3)]])[0], ("chain", 3))
        self.assertEqual(judge(history, [[B]]), [("chain", 2)])
        self.assertEqual(judge(history, [[A]]), [("unknown", 0)])
        history.add(call(ANN))
        history.add(accept(-1, 1, "no"))
        self.assertEqual(judge(history, [[block(1, 0, 1, (ANN,))]]), [("answer", -1, 1)])
        history = History()
        for event in (call((-1, 1, "keys a")), accept(-1, 1, "-"), call((-2, 1, "keys b"))):
            history.add(event)
        late = [block(1, 0, 1, ((-2, 1, "keys b"),)), block(2, 1, 2, ((-1, 1, "keys a"),))]
        self.assertEqual(judge(history, [late]), [("order", -1, 1, -2, 1)])
        history = History()
        history.add(("final", 0, 3, block(1)))
        self.assertEqual(judge(history, [[]]), [("lost", 3, 1)])

    def test_all_faults_at_once(self):
        history = History()
        for event in (("final", 0, 2, block(8)), call((-1, 1, "keys a")), accept(-1, 1, "x"), call((-2, 1, "keys b"))):
            history.add(event)
        ledger = [block(1, 0, 1, ((-2, 1, "keys b"),)), block(3, 1, 2, ((-1, 1, "keys a"),)), block(5, 2, 3, ((-3, 1, "z"),))]
        faults = [("agreement", 0, 1, 1), ("chain", 3), ("unknown", 2), ("answer", -1, 1), ("order", -1, 1, -2, 1), ("lost", 2, 1)]
        self.assertEqual(judge(history, [[block(8)], ledger]), faults)

    def test_nothing_is_changed(self):
        history, ledgers = good_history(), [list(LEDGER), [A]]
        judge(history, ledgers)
        self.assertEqual((history.events(), ledgers), (good_history().events(), [LEDGER, [A]]))

    def test_the_answers_of_the_examples(self):
        state = State()
        self.assertEqual([execute(state, command) for command in COMMANDS], [row[2] for row in ACCEPTED])


if __name__ == "__main__":
    unittest.main()
