"""Points 614 to 616: schedules."""

import itertools
import unittest

from oathledger.blocks import GENESIS
from oathledger.errors import BadSchedule
from oathledger.schedule import act_line, parse_schedule, run_schedule
from oathledger.texts import encode
from oathledger.world import World
from tests.objects import inside
from tests.values import PERCENT, STRANGE, block

MOST = 10 ** 12
NINES = "9" * 12
WORLD = "world 1 2 300 3"
VOTE = ("vote", block(3, commands=((-1, 1, "a b"),)))
ROWS = [
    ("tick 1", ("tick", 1)), ("tick 1000", ("tick", 1000)), ("calm 20", ("calm", 20)), ("round", ("round",)),
    ("submit -1 open ann", ("submit", -1, "open ann")), ("submit -100 ", ("submit", -100, "")),
    ("submit -7  ", ("submit", -7, " ")), ("submit -7   a  b ", ("submit", -7, "  a  b ")),
    ("submit -7 # -7", ("submit", -7, "# -7")), ("submit -7 " + "x" * 300, ("submit", -7, "x" * 300)),
    ("submit -" + NINES + " a", ("submit", 1 - MOST, "a")), ("deliver 0", ("deliver", 0)), ("lose 7", ("lose", 7)),
    ("double " + NINES, ("double", MOST - 1)), ("move 10", ("move", 10)), ("say 3 0 t2:s5:claimi0;", ("say", 3, 0, ("claim", 0))),
    ("say 3 -2 t3:s6:answeri1;s2: a", ("say", 3, -2, ("answer", 1, " a"))), ("say 3 1 " + encode(VOTE), ("say", 3, 1, VOTE)),
    ("say 31 -" + NINES + " t3:s7:commandi1;s1:a", ("say", 31, 1 - MOST, ("command", 1, "a"))),
    ("arm 0 0", ("arm", 0, 0)), ("arm 30 100", ("arm", 30, 100)), ("crash 2", ("crash", 2)),
    ("restart 2 0", ("restart", 2, 0)), ("restart 0 " + NINES, ("restart", 0, MOST - 1)),
]


class ParseTest(unittest.TestCase):
    def test_the_world(self):
        self.assertEqual(parse_schedule("world 1 2 300"), (1, 1, 2, 300, [], []))
        self.assertEqual(parse_schedule("world 0 0 0\n"), (1, 0, 0, 0, [], []))
        self.assertEqual(parse_schedule("world 2 100 10000 3,7"), (1, 2, 100, 10000, [3, 7], []))
        self.assertEqual(parse_schedule(f"world {NINES} {NINES} {NINES} 0,{NINES}"),
                         (1, MOST - 1, MOST - 1, MOST - 1, [0, MOST - 1], []))
        self.assertEqual(parse_schedule("world 10 0 4 " + ",".join(map(str, range(15))))[4], list(range(15)))

    def test_each_act(self):
        for line, act in ROWS:
            self.assertEqual(parse_schedule(f"{WORLD}\n{line}"), (1, 1, 2, 300, [3], [(2, act)]))
        text = "\n".join([WORLD] + [line for line, _ in ROWS])
        self.assertEqual(parse_schedule(text)[5], [(at + 2, act) for at, (_, act) in enumerate(ROWS)])

    def test_the_kinds_of_what_is_returned(self):
        parsed = parse_schedule(f"{WORLD}\ntick 1")
        self.assertEqual([type(part) for part in parsed], [int, int, int, int, list, list])
        self.assertEqual([type(part) for part in parsed[5][0]], [int, tuple])

    def test_comments_and_empty_lines(self):
        text = "\n# a comment\n\n#\n#world 9 9 9\nworld 1 2 300\n\n# tick\ntick 3\n#\n\nround\n\n#"
        self.assertEqual(parse_schedule(text), (6, 1, 2, 300, [], [(9, ("tick", 3)), (12, ("round",))]))
        self.assertEqual(parse_schedule("#  two  spaces \nworld 1 2 300\n"), (2, 1, 2, 300, [], []))

    def test_acts_that_are_not_possible(self):
        lines = ["tick 0", "tick 1001", "calm 0", "submit -99 a", "submit -1 " + "x" * 241, "deliver 99999", "arm 77 1", "crash 77",
                 "restart 0 1", "say 0 99 t2:s5:claimi0;", "say 3 -77 t3:s6:answeri1;s1:a"]
        parsed = parse_schedule("\n".join(["world 99 999 1 4,5,6"] + lines))
        self.assertEqual(parsed[:5], (1, 99, 999, 1, [4, 5, 6]))
        self.assertEqual(len(parsed[5]), len(lines))


class ParseErrorTest(unittest.TestCase):
    def assert_refused(self, text, line, reason):
        with self.assertRaises(BadSchedule) as caught:
            parse_schedule(text)
        self.assertEqual((caught.exception.line, caught.exception.reason), (line, reason), text)

    def assert_line_refused(self, line, reason):
        """The line is refused as the second and as a later one."""
        self.assert_refused(f"{WORLD}\n{line}", 2, reason)
        self.assert_refused(f"# first\n{WORLD}\n\ntick 1\n{line}\ntick 1", 5, reason)

    def test_no_line(self):
        for text in ("", "\n", "\n\n\n", "#", "# a\n\n#b\n"):
            self.assert_refused(text, 0, "world")

    def test_character(self):
        for character in ("\t", "\r", "\x7f", "\x00", "\u00e9", "\u2028", PERCENT):
            self.assert_line_refused(f"submit -1 a{character}", "character")
            self.assert_line_refused(f"{character}", "character")
            self.assert_line_refused(f"tick 1{character}", "character")
            self.assert_refused(f"world 1 2 300{character}\ntick 1", 1, "character")
            self.assert_refused(f"{character}\n{WORLD}", 1, "character")
        self.assert_refused(WORLD + "\r\ntick 1\r\n", 1, "character")

    def test_a_comment_is_a_line_too(self):
        self.assert_line_refused(f"# 100{PERCENT}", "character")
        self.assert_refused(f"#\t\n{WORLD}", 1, "character")

    def test_world(self):
        for line in ("tick 1", "World 1 2 300", "worlds 1 2 300", " world 1 2 300", "world1 2 300", "x", " ", "world,1 2 300"):
            self.assert_refused(line, 1, "world")
            self.assert_refused(f"\n# x\n{line}\n{WORLD}", 3, "world")
        for line in (WORLD, "world", "world x", "world 1 2 300 2,1"):
            self.assert_line_refused(line, "world")

    def test_verb(self):
        for line in ("ticks 1", "Tick 1", "", " tick 1", " ", "say,", "rounds", "-1", "tick\\n", "accept 1", "comment # x"):
            if line:
                self.assert_line_refused(line, "verb")

    def test_count(self):
        lines = ["tick", "calm", "deliver", "lose", "double", "move", "crash", "arm", "arm 1", "restart", "restart 1", "submit",
                 "submit -1", "say", "say 3", "say 3 0", "tick 1 1", "tick 1 ", "tick  1", "round ", "round 1", "calm 1 1",
                 "deliver 1 1", "arm 1 1 1", "arm 1 1 ", "restart 1 1 1", "crash 1 1", "crash 1 "]
        for line in lines:
            self.assert_line_refused(line, "count")
        for line in ("world", "world 1", "world 1 2", "world 1 2 300 3 4", "world 1 2 300 3 ", "world  1 2 300 3"):
            self.assert_refused(line, 1, "count")

    def test_number(self):
        wrong = ["", "01", "00", "1.0", "+1", "-1", "-0", "a", "1a", "0x1", "1_0", "1,0", "1000000000000", "0000000000001", "--1", "-",
                 "9" * 5000]
        for word in wrong:
            for form in ("tick {}", "calm {}", "deliver {}", "lose {}", "double {}", "move {}", "crash {}", "arm {} 1", "arm 1 {}",
                         "restart {} 1", "restart 1 {}", "say {} 0 t2:s5:claimi0;"):
                self.assert_line_refused(form.format(word), "number")
            for form in ("world {} 2 300", "world 1 {} 300", "world 1 2 {}", "world 1 2 300 {}", "world 1 2 300 0,{}"):
                if (word, form) != ("1,0", "world 1 2 300 {}"):
                    self.assert_refused(form.format(word), 1, "number")

    def test_numbers_of_clients_and_receivers(self):
        for word in ("", "-", "-0", "-01", "--1", "+1", "1.0", "a", "-a", "-1000000000000", "-0000000000001", "01", "-1.0", "-1-"):
            self.assert_line_refused(f"submit {word} a", "number")
            self.assert_line_refused(f"say 3 {word} t2:s5:claimi0;", "number")
        # A client has a sign.
        for word in ("0", "1", NINES):
            self.assert_line_refused(f"submit {word} a", "number")
            self.assertEqual(parse_schedule(f"{WORLD}\nsay 3 {word} t2:s5:claimi0;")[5][0][1][2], int(word))

    def test_liars(self):
        for word in ("1,0", "1,1", "0,1,1", "0,2,1", "1,", ",1", ",", "1,,2", "-1", "1,-2", "01", "0, 1", "a", "3;4", "1000000000000"):
            reason = "count" if " " in word else "number"
            self.assert_refused(f"world 2 2 300 {word}", 1, reason)

    def test_letter(self):
        texts = ["", " ", "t", "t2:s5:claimi0", "t2:s5:claimi0; ", " t2:s5:claimi0;", "t2:s5:claimi-1;", "t2:s5:claimy", "t2:s6:claimsi0;",
                 "n", "i1;", "t0:", encode(("vote", GENESIS)), encode(("give", 2, block(1))), "('claim', 0)", "x" * 100001]
        for text in texts:
            self.assert_line_refused(f"say 3 0 {text}", "letter")

    def test_two_in_the_same_line(self):
        self.assert_refused(f"tick 1{PERCENT}", 1, "character")
        self.assert_refused("tick", 1, "world")
        self.assert_line_refused(f"world{PERCENT}", "character")
        self.assert_line_refused("ticks", "verb")
        self.assert_line_refused("ticks x", "verb")
        self.assert_line_refused("arm x", "count")
        self.assert_line_refused("tick x x", "count")
        self.assert_line_refused("say x 0 x", "number")
        self.assert_line_refused("say 3 x x", "number")
        self.assert_line_refused("say x x", "count")
        self.assert_refused("world x", 1, "count")
        self.assert_refused("world x 2 300 2,1", 1, "number")

    def test_two_in_two_lines(self):
        lines = [("x" + PERCENT, "character"), (WORLD, "world"), ("x", "verb"), ("tick", "count"), ("tick x", "number"),
                 ("say 3 0 x", "letter")]
        for (first, reason), (second, _) in itertools.permutations(lines, 2):
            self.assert_refused("\n".join([WORLD, "", first, second]), 3, reason)
        for first, reason in lines[:1] + lines[2:]:
            self.assert_refused("\n".join(["#", first, WORLD]), 2, "character" if reason == "character" else "world")


class ActLineTest(unittest.TestCase):
    def assert_refused(self, act):
        with self.assertRaises(BadSchedule) as caught:
            act_line(act)
        self.assertEqual((caught.exception.line, caught.exception.reason), (0, "act"), act)

    def test_each_act(self):
        for line, act in ROWS:
            self.assertEqual(act_line(act), line)

    def test_there_and_back(self):
        for line, act in ROWS:
            self.assertEqual(parse_schedule(f"world 0 0 4\n{act_line(act)}")[5], [(2, act)])

    def test_what_check_act_refuses(self):
        wrong = STRANGE + [(), "tick 1", ("tick",), ("tick", 1, 1), ["tick", 1], ("ticks", 1), ("tick", 0), ("tick", 1001), ("tick", True),
                           ("calm", 0), ("deliver", -1), ("lose", MOST + 1), ("arm", 0, None), ("restart", 0, "1"), ("round", 1)]
        for act in wrong:
            self.assert_refused(act)

    def test_what_has_no_line(self):
        wrong = [("deliver", MOST), ("lose", MOST), ("double", MOST), ("move", MOST), ("arm", 0, MOST), ("restart", 0, MOST),
                 ("arm", -1, 0), ("arm", MOST, 0), ("crash", -1), ("crash", MOST), ("crash", "1"), ("restart", -1, 0),
                 ("submit", 0, "a"), ("submit", 1, "a"), ("submit", -MOST, "a"), ("submit", -10 ** 5000, "a"), ("submit", "-1", "a"),
                 ("submit", -1, "\n"), ("submit", -1, PERCENT), ("submit", -1, 5), ("submit", -1, ("a",)),
                 ("say", -1, 0, ("claim", 0)), ("say", MOST, 0, ("claim", 0)), ("say", 3, MOST, ("claim", 0)),
                 ("say", 3, -MOST, ("claim", 0)), ("say", 3, 0, ("claim", -1)), ("say", 3, 0, "t2:s5:claimi0;"),
                 ("say", 3, 0, ("vote", GENESIS)), ("say", 3, 0, ()), ("crash", 10 ** 5000)]
        for act in wrong:
            self.assert_refused(act)

    def test_items_of_another_kind(self):
        for odd in STRANGE:
            for act in (("submit", odd, "a"), ("submit", -1, odd), ("say", odd, 0, ("claim", 0)), ("say", 3, odd, ("claim", 0)),
                        ("say", 3, 0, odd), ("arm", odd, 0), ("crash", odd), ("restart", odd, 0)):
                self.assert_refused(act)


class RunTest(unittest.TestCase):
    def assert_refused(self, text, line, reason):
        with self.assertRaises(BadSchedule) as caught:
            run_schedule(text)
        self.assertEqual((caught.exception.line, caught.exception.reason), (line, reason), text)

    def test_a_run(self):
        text = "# a run\nworld 1 2 300 3\n\nsubmit -1 open ann;issue ann 100\nsubmit -2 open bob\ncalm 30\nsay 3 0 t2:s5:claimi0;\nround"
        world = run_schedule(text)
        expected = World(1, [3], 2, 300)
        for _, act in parse_schedule(text)[5]:
            expected.act(act)
        self.assertIsInstance(world, World)
        self.assertEqual(inside(world), inside(expected))
        self.assertEqual(len(world.history().accepted()), 2)
        self.assertEqual(run_schedule("world 0 0 4").honest(), [0])

    def test_worlds_that_cannot_be_created(self):
        rows = [("11 1 300", "faults"), (f"{NINES} 1 300", "faults"), ("1 1 300 4", "liars"), ("1 1 300 0,1", "liars"),
                ("0 1 300 0", "liars"), ("1 101 300", "clients"), ("1 1 3", "sectors"), ("1 1 10001", "sectors"), ("1 1 0", "sectors")]
        for line, reason in rows:
            self.assert_refused(f"world {line}", 1, reason)
            self.assert_refused(f"\n#\nworld {line}\ntick 0", 3, reason)

    def test_pairs_of_reasons(self):
        wrong = ["11", "101", "3", "40,41"]
        good = ["1", "1", "300", "3"]
        ranks = {0: "faults", 3: "liars", 1: "clients", 2: "sectors"}
        for first, second in itertools.combinations([0, 3, 1, 2], 2):
            parts = list(good)
            parts[first], parts[second] = wrong[first], wrong[second]
            self.assert_refused("world " + " ".join(parts), 1, ranks[first])

    def test_acts_that_are_not_possible(self):
        rows = [("tick 0", "number"), ("calm 1001", "number"), ("submit -3 a", "client"), ("submit -1 " + "x" * 241, "text"),
                ("deliver 99", "position"), ("lose 99", "position"), ("double 99", "position"), ("move 99", "position"),
                ("arm 3 0", "machine"), ("crash 4", "machine"), ("restart 3 0", "machine"), ("say 0 0 t2:s5:claimi0;", "machine"),
                ("say 3 -1 t2:s5:claimi0;", "letter"), ("say 3 -3 t3:s6:answeri1;s1:a", "letter"), ("restart 0 0", "state")]
        for line, reason in rows:
            self.assert_refused(f"{WORLD}\n{line}", 2, reason)
            self.assert_refused(f"# x\n{WORLD}\n\ntick 1\n{line}\ntick 0", 5, reason)
        self.assert_refused(f"{WORLD}\ncrash 0\ncrash 0", 3, "state")
        self.assert_refused(f"{WORLD}\ncrash 0\n\narm 0 1", 4, "state")

    def test_a_text_that_is_no_schedule(self):
        self.assert_refused("", 0, "world")
        self.assert_refused("world 11 1 300\nx", 2, "verb")
        self.assert_refused(f"{WORLD}\ntick 0\ntick x", 3, "number")
        self.assert_refused(f"{WORLD}\ndeliver 99\nworld", 3, "world")


if __name__ == "__main__":
    unittest.main()
