"""The interface: each name stands in its file, with its arguments, and each method in its class."""

import importlib
import inspect
import unittest

from oathledger.groups import Group

FUNCTIONS = {
    "groups": ["epoch_of(time)", "first_tick(epoch)"],
    "texts": ["encode(value)", "decode(text)", "read_value(text, start)", "text_length(value)", "is_printable(value)",
              "is_integer(value, least, greatest)"],
    "requests": ["is_command(value)", "is_command_list(value)", "last_number(last, client)", "all_fresh(last, commands)",
                 "numbers_after(last, commands)"],
    "blocks": ["is_block(value)", "check_block(value)", "follows(block, parent)", "command_of(block, client)"],
    "letters": ["is_letter(value)", "route(letter)", "check_letter(group, sender, receiver, letter)"],
    "wire": ["pack(sender, receiver, letter)", "unpack(group, text)", "frame(text)"],
    "sectors": ["format_head(generation, area)", "format_piece(generation, place, left, payload)", "parse_sector(text)",
                "cut(text)"],
    "memory": ["reduce(records)"],
}
CLASSES = {
    "errors": {
        "LedgerError": None, "BadText": None, "BadBlock": None, "BadLetter": None, "BadGroup": None, "DiskError": None,
        "DiskCrashed": None, "JournalError": None, "JournalFull": None, "BadRecord": None, "Refused": ["__init__(self, reason)"],
        "BadCommand": ["__init__(self, reason, statement)"], "BadSchedule": ["__init__(self, line, reason)"],
    },
    "groups": {"Group": ["__init__(self, faults)", "members(self)", "is_member(self, value)", "leader(self, epoch)"]},
    "wire": {"Cutter": ["__init__(self)", "feed(self, chunk)", "broken(self)", "waiting(self)"]},
    "disk": {"Disk": ["__init__(self, size)", "size(self)", "read(self, index)", "write(self, index, text)", "sync(self)",
                      "pending(self)", "arm(self, operations)", "crash(self, survivors)", "image(self)"]},
    "journal": {"Journal": ["__init__(self, disk)", "generation(self)", "records(self)", "needed(self, record)", "room(self)",
                            "append(self, record)", "sync(self)", "compact(self, records)"]},
    "memory": {"Memory": ["__init__(self, records)", "finals(self)", "votes(self)", "readies(self)", "vouches(self)",
                          "checkpoint(self)", "last_vote(self)", "floor(self)", "fits(self, record)", "add(self, record)"]},
}


def signature(function):
    """The name and the arguments of a function."""
    return f"{function.__name__}{inspect.signature(function)}"


class InterfaceTest(unittest.TestCase):
    def test_functions(self):
        for name, signatures in FUNCTIONS.items():
            module = importlib.import_module(f"oathledger.{name}")
            for expected in signatures:
                with self.subTest(module=name, function=expected):
                    function = vars(module)[expected.split("(")[0]]
                    self.assertEqual(signature(function), expected)
                    self.assertEqual(function.__module__, module.__name__)

    def test_classes(self):
        for name, classes in CLASSES.items():
            module = importlib.import_module(f"oathledger.{name}")
            for class_name, methods in classes.items():
                kind = vars(module)[class_name]
                self.assertEqual(kind.__module__, module.__name__)
                for expected in methods or []:
                    with self.subTest(module=name, method=expected):
                        self.assertEqual(signature(vars(kind)[expected.split("(")[0]]), expected)

    def test_attributes_of_a_group(self):
        found = vars(Group(2))
        self.assertEqual({name: found[name] for name in ("faults", "machines", "quorum", "blocking")},
                         {"faults": 2, "machines": 7, "quorum": 5, "blocking": 3})


if __name__ == "__main__":
    unittest.main()
