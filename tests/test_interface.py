"""The interface: each name stands in its file, with its arguments, and each method in its class."""

import importlib
import inspect
import unittest

from oathledger.accounts import ACCOUNT_LIMIT, HOLD_LIMIT, SUPPLY_LIMIT, Accounts
from oathledger.acts import MOST_TICKS
from oathledger.blocks import GENESIS
from oathledger.chain import Chain
from oathledger.disk import SECTOR_SIZE
from oathledger.errors import BadSchedule
from oathledger.executor import RESULT_LIMIT, State
from oathledger.groups import Group
from oathledger.replica import CHECKPOINT
from oathledger.report import event_line, event_of
from oathledger.schedule import act_line, parse_schedule
from oathledger.sectors import PIECE_SIZE
from oathledger.sessions import Sessions
from oathledger.store import ENTRY_LIMIT, Store
from oathledger.world import MOST_SECTORS

FUNCTIONS = {
    "groups": ["epoch_of(time)", "first_tick(epoch)"],
    "texts": ["encode(value)", "decode(text)", "read_value(text, start)", "text_length(value)", "is_printable(value)",
              "is_integer(value, least, greatest)"],
    "requests": ["is_command(value)", "is_command_list(value)", "last_number(last, client)", "all_fresh(last, commands)",
                 "numbers_after(last, commands)"],
    "blocks": ["is_block(value)", "check_block(value)", "follows(block, parent)", "command_of(block, client)"],
    "letters": ["is_letter(value)", "route(letter)", "check_letter(group, sender, receiver, letter)"],
    "wire": ["pack(sender, receiver, letter)", "unpack(group, text)", "frame(text)"],
    "sectors": ["format_head(generation, area)", "format_piece(generation, place, left, payload)", "parse_sector(text)",
                "cut(text)"],
    "memory": ["reduce(records)"],
    "ballot": ["numbers_along(numbers, path)", "may_vote(block, epoch, chain, ballot, known, numbers)"],
    "tokens": ["statements(text)", "is_name(word)", "is_key(word)", "is_value(word)", "is_amount(word)"],
    "language": ["parse_command(text)", "command_text(parsed)"],
    "executor": ["run(state, client, parsed)", "execute(state, command)", "execute_block(state, block)"],
    "snapshot": ["state_text(state)", "state_of(text)"],
    "outbox": ["to_others(group, me, letter)", "repeats(group, me, vouches, votes, readies, height)",
               "gives(receiver, blocks, height)", "answers(rows)"],
    "acts": ["check_act(act)", "survivors(keep, count)"],
    "schedule": ["parse_schedule(text)", "act_line(act)", "run_schedule(text)"],
    "history": ["is_event(value)"],
    "judge": ["ledger_commands(ledger)", "agreement_fault(ledgers)", "chain_fault(ledger)", "validity_fault(ledger, calls)",
              "answer_fault(ledger, accepted)", "order_fault(ledger, events)", "lost_fault(events, ledger)",
              "judge(history, ledgers)"],
    "linear": ["precedes(history, first, second)", "is_linear(history, order)", "find_linear(history)"],
    "report": ["event_line(event)", "event_of(line)", "history_text(history)", "history_of(text)", "ledger_lines(ledger)",
               "summary(history, ledgers)"],
}
CLASSES = {
    "errors": {
        "LedgerError": None, "BadText": None, "BadBlock": None, "BadLetter": None, "BadGroup": None, "DiskError": None,
        "DiskCrashed": None, "JournalError": None, "JournalFull": None, "BadRecord": None, "Refused": ["__init__(self, reason)"],
        "BadCommand": ["__init__(self, reason, statement)"], "BadSchedule": ["__init__(self, line, reason)"],
    },
    "groups": {"Group": ["__init__(self, faults)", "members(self)", "is_member(self, value)", "leader(self, epoch)"]},
    "wire": {"Cutter": ["__init__(self)", "feed(self, chunk)", "broken(self)", "waiting(self)"]},
    "disk": {"Disk": ["__init__(self, size)", "size(self)", "read(self, index)", "write(self, index, text)", "sync(self)",
                      "pending(self)", "arm(self, operations)", "crash(self, survivors)", "image(self)"]},
    "journal": {"Journal": ["__init__(self, disk)", "generation(self)", "records(self)", "needed(self, record)", "room(self)",
                            "append(self, record)", "sync(self)", "compact(self, records)"]},
    "memory": {"Memory": ["__init__(self, records)", "finals(self)", "votes(self)", "readies(self)", "vouches(self)",
                          "checkpoint(self)", "last_vote(self)", "floor(self)", "fits(self, record)", "add(self, record)"]},
    "logbook": {"Logbook": ["__init__(self, disk)", "note(self, record)", "flush(self)", "shorten(self)", "memory(self)",
                            "records(self)"]},
    "notary": {"Notary": ["__init__(self, group)", "add_vote(self, sender, block)", "add_ready(self, sender, block)",
                          "votes(self, block)", "readies(self, block)", "supported(self, epoch)", "notarized(self, epoch)",
                          "epochs(self)", "forget(self, epoch)"]},
    "chain": {"Chain": ["__init__(self, root)", "insert(self, block)", "connected(self, epoch)", "tip(self)", "path(self, epoch)",
                        "final(self)", "settle(self, block)"]},
    "ballot": {"Ballot": ["__init__(self, blocks)", "last(self)", "floor(self)", "restore(self, epoch, floor)",
                          "record(self, block)", "blocks(self)"]},
    "agreement": {"Agreement": ["__init__(self, group, me, root, numbers, votes, readies, last=0, floor=0)",
                                "receive(self, sender, kind, block)", "advance(self, epoch, known)",
                                "propose(self, epoch, candidates)", "adopt(self, block)", "final_blocks(self)", "last_final(self)",
                                "sent(self, kind)", "tip(self)"]},
    "accounts": {"Accounts": ["__init__(self)", "create(self, client, name)", "close(self, client, name)",
                              "issue(self, client, name, amount)", "burn(self, client, name, amount)",
                              "pay(self, client, source, target, amount)", "hold(self, client, source, target, amount, key)",
                              "settle(self, client, key)", "release(self, client, key)", "balance(self, name)", "owner(self, name)",
                              "supply(self)", "rows(self)", "held(self)", "clone(self)"]},
    "store": {"Store": ["__init__(self)", "put(self, client, key, value)", "drop(self, client, key)", "swap(self, key, old, new)",
                        "read(self, key)", "matching(self, prefix)", "rows(self)", "clone(self)"]},
    "sessions": {"Sessions": ["__init__(self)", "last(self, client)", "answer(self, client)",
                              "remember(self, client, number, answer)", "rows(self)", "numbers(self)", "clone(self)"]},
    "executor": {"State": ["__init__(self)", "clone(self)"]},
    "vouching": {"Vouching": ["__init__(self, group, me)", "ask(self, command, last)", "restore(self, command)",
                              "add(self, sender, command, last)", "executed(self, client, number)", "support(self, command)",
                              "own(self)", "known(self)", "backed(self)"]},
    "catchup": {"Catchup": ["__init__(self, group)", "add(self, sender, block, height)", "due(self, last)", "forget(self, height)"]},
    "replica": {"Replica": ["__init__(self, blocks, checkpoint)", "blocks(self)", "height(self)", "last_block(self)",
                            "execute(self, block)", "last_number(self, client)", "answer(self, client)", "numbers(self)",
                            "state_text(self)"]},
    "machine": {"Machine": ["__init__(self, group, me, disk)", "tick(self, time)", "receive(self, sender, letter)",
                            "ledger(self)", "epoch(self)", "tip(self)", "state_text(self)"]},
    "client": {"Client": ["__init__(self, group, name)", "submit(self, text)", "tick(self)", "receive(self, sender, letter)",
                          "pending(self)", "accepted(self)", "waiting(self)"]},
    "net": {"Net": ["__init__(self)", "send(self, sender, receiver, letter)", "take(self, position)", "double(self, position)",
                    "move(self, position)", "packets(self)", "count(self)"]},
    "world": {"World": ["__init__(self, faults, liars, clients, sectors)", "act(self, step)", "time(self)", "ledger(self, machine)",
                        "honest(self)", "is_up(self, machine)", "history(self)", "packets(self)", "client(self, name)"]},
    "history": {"History": ["__init__(self)", "add(self, event)", "events(self)", "calls(self)", "accepted(self)",
                            "open_calls(self)", "ledger(self, machine)", "machines(self)"]},
}


def signature(function):
    """The name and the arguments of a function."""
    return f"{function.__name__}{inspect.signature(function)}"


class InterfaceTest(unittest.TestCase):
    def test_functions(self):
        for name, signatures in FUNCTIONS.items():
            module = importlib.import_module(f"oathledger.{name}")
            for expected in signatures:
                with self.subTest(module=name, function=expected):
                    function = vars(module)[expected.split("(")[0]]
                    self.assertEqual(signature(function), expected)
                    self.assertEqual(function.__module__, module.__name__)

    def test_classes(self):
        for name, classes in CLASSES.items():
            module = importlib.import_module(f"oathledger.{name}")
            for class_name, methods in classes.items():
                kind = vars(module)[class_name]
                self.assertEqual(kind.__module__, module.__name__)
                for expected in methods or []:
                    with self.subTest(module=name, method=expected):
                        self.assertEqual(signature(vars(kind)[expected.split("(")[0]]), expected)

    def test_attributes_of_a_group(self):
        found = vars(Group(2))
        self.assertEqual({name: found[name] for name in ("faults", "machines", "quorum", "blocking")},
                         {"faults": 2, "machines": 7, "quorum": 5, "blocking": 3})

    def test_attributes_of_a_chain_and_a_state(self):
        self.assertIn("root", vars(Chain(GENESIS)))
        found = vars(State())
        self.assertEqual([type(found[name]) for name in ("accounts", "store", "sessions")], [Accounts, Store, Sessions])

    def test_constants(self):
        self.assertEqual((SECTOR_SIZE, PIECE_SIZE, GENESIS), (96, 40, (0, 0, 0, ())))
        self.assertEqual((SUPPLY_LIMIT, ACCOUNT_LIMIT, HOLD_LIMIT, ENTRY_LIMIT, RESULT_LIMIT), (10 ** 15, 100, 100, 200, 60))
        self.assertEqual((CHECKPOINT, MOST_TICKS, MOST_SECTORS), (8, 1000, 10000))

    def test_examples_of_schedules_and_events(self):
        self.assertEqual(parse_schedule("world 1 2 300 3\nsubmit -1 open ann\ncalm 4"),
                         (1, 1, 2, 300, [3], [(2, ("submit", -1, "open ann")), (3, ("calm", 4))]))
        self.assertEqual(act_line(("say", 3, 0, ("claim", 0))), "say 3 0 t2:s5:claimi0;")
        self.assertEqual(event_line(("call", 3, -2, 1, "open ann")), "3 call -2 1 open ann")
        self.assertEqual(event_of("4 accept -2 1 ok"), ("accept", 4, -2, 1, "ok"))
        with self.assertRaises(BadSchedule):
            event_of("4 accept -2 1")


if __name__ == "__main__":
    unittest.main()
