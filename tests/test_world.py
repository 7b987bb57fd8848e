"""Points 600, 606 to 613 and 616: worlds."""

import unittest

from oathledger.blocks import GENESIS
from oathledger.client import Client
from oathledger.errors import BadSchedule
from oathledger.history import History
from oathledger.world import MOST_SECTORS, World
from tests.machines import others
from tests.objects import inside
from tests.values import PERCENT, STRANGE, block, with_part

MOST = 10 ** 12


def packets_of(sender, letters):
    return [(sender, receiver, letter) for receiver, letter in letters]


def claims(machines, faults=1, height=0):
    """The packets of the first tick of these machines."""
    return [packet for me in machines for packet in packets_of(me, others(me, ("claim", height), faults=faults))]


def commands(name, number, text, machines=4):
    return [(name, machine, ("command", number, text)) for machine in range(machines)]


def world_of(*acts, faults=1, liars=(), clients=2, sectors=300):
    """A world after these acts."""
    world = World(faults, list(liars), clients, sectors)
    for act in acts:
        world.act(act)
    return world


def empty(world):
    """Lose all packets in flight."""
    while world.packets():
        world.act(("lose", 0))


def position_of(world, packet):
    return world.packets().index(packet)


class CreationTest(unittest.TestCase):
    def assert_refused(self, reason, *parts):
        with self.assertRaises(BadSchedule) as caught:
            World(*parts)
        self.assertEqual((caught.exception.line, caught.exception.reason), (0, reason), parts)

    def test_the_constant(self):
        self.assertEqual(MOST_SECTORS, 10000)

    def test_a_new_world(self):
        world = World(1, [2], 2, 300)
        self.assertEqual((world.time(), world.honest(), world.packets()), (0, [0, 1, 3], claims([0, 1, 3])))
        self.assertEqual([world.is_up(machine) for machine in (0, 1, 3)], [True] * 3)
        self.assertEqual([world.ledger(machine) for machine in (0, 1, 3)], [[]] * 3)
        self.assertEqual(world.history().events(), [])
        self.assertIsInstance(world.history(), History)
        self.assertIsInstance(world.client(-1), Client)
        self.assertEqual([world.client(name).pending() for name in (-1, -2)], [None, None])

    def test_sizes(self):
        self.assertEqual((World(0, [], 0, 4).honest(), World(0, [], 0, 4).packets()), ([0], []))
        world = World(2, [0, 6], 100, 300)
        self.assertEqual((world.honest(), world.packets()), ([1, 2, 3, 4, 5], claims([1, 2, 3, 4, 5], 2)))
        self.assertIsNotNone(world.client(-100))
        self.assertEqual(World(10, list(range(10)), 0, 10000).honest(), list(range(10, 31)))

    def test_faults(self):
        for faults in [-1, 11, "1", MOST] + STRANGE:
            self.assert_refused("faults", faults, [], 1, 300)

    def test_liars(self):
        wrong = [[4], [-1], [1, 2], [True], ["1"], [None], [1.0], [[1]], (1,), (), "1", 1, None, {1: 1}]
        for liars in wrong:
            self.assert_refused("liars", 1, liars, 1, 300)
        for liars in ([1, 1], [2, 1], [0, 7], [0, 1, 2], [1, True]):
            self.assert_refused("liars", 2, liars, 1, 300)
        self.assert_refused("liars", 0, [0], 1, 300)
        self.assertEqual(World(2, [1, 2], 1, 300).honest(), [0, 3, 4, 5, 6])

    def test_clients(self):
        for clients in [-1, 101, "1"] + STRANGE:
            self.assert_refused("clients", 1, [], clients, 300)

    def test_sectors(self):
        for sectors in [3, 0, -1, 10001, "300"] + STRANGE:
            self.assert_refused("sectors", 1, [], 1, sectors)

    def test_which_reason_decides(self):
        wrong = [11, [9], -1, 3]
        good = [1, [3], 1, 300]
        reasons = ["faults", "liars", "clients", "sectors"]
        for first in range(4):
            for second in range(first + 1, 4):
                parts = list(good)
                parts[first], parts[second] = wrong[first], wrong[second]
                self.assert_refused(reasons[first], *parts)

    def test_the_list_of_liars_may_be_changed(self):
        liars = [2]
        world = World(1, liars, 1, 300)
        liars[0] = 0
        self.assertEqual(world.honest(), [0, 1, 3])
        world.honest().clear()
        self.assertEqual(world.honest(), [0, 1, 3])
        self.assertEqual(world.is_up(0), True)


class TellTest(unittest.TestCase):
    def test_machines_that_are_not_honest(self):
        world = World(1, [2], 2, 300)
        for method in (world.ledger, world.is_up):
            for machine in [2, 4, -1, "0", 0.0] + STRANGE:
                with self.assertRaises(BadSchedule) as caught:
                    method(machine)
                self.assertEqual((caught.exception.line, caught.exception.reason), (0, "machine"))

    def test_clients_that_are_none(self):
        world = World(1, [], 2, 300)
        for name in [0, 1, -3, -100, "-1", -1.0] + STRANGE:
            with self.assertRaises(BadSchedule) as caught:
                world.client(name)
            self.assertEqual((caught.exception.line, caught.exception.reason), (0, "client"))
        self.assertIsNot(world.client(-1), world.client(-2))

    def test_what_is_returned_is_new(self):
        world = world_of(("submit", -1, "a"), ("calm", 20))
        before = inside(world)
        self.assertGreater(len(world.ledger(0)), 0)
        world.packets().clear()
        world.ledger(0).clear()
        world.history().add(("crash", MOST, 1))
        self.assertEqual(inside(world), before)
        self.assertNotEqual(world.ledger(0), [])


class TickTest(unittest.TestCase):
    def test_machines_and_then_clients(self):
        world = world_of(("submit", -2, "b"), ("submit", -1, "a"), ("tick", 4), liars=[1])
        empty(world)
        world.act(("tick", 1))
        expected = packets_of(0, others(0, ("claim", 0), ("propose", block(1)), ("vote", block(1))))
        expected += claims([2, 3]) + commands(-1, 1, "a") + commands(-2, 1, "b")
        self.assertEqual((world.time(), world.packets()), (5, expected))

    def test_a_count(self):
        one, many = world_of(("submit", -1, "a")), world_of(("submit", -1, "a"))
        many.act(("tick", 13))
        for _ in range(13):
            one.act(("tick", 1))
        self.assertEqual((one.time(), inside(one)), (13, inside(many)))

    def test_a_machine_that_is_down_is_not_told(self):
        world = world_of(("tick", 4), ("crash", 2))
        empty(world)
        world.act(("tick", 1))
        self.assertEqual([packet[0] for packet in world.packets() if packet[2] == ("claim", 0)], [0] * 3 + [1] * 3 + [3] * 3)

    def test_the_greatest_count(self):
        self.assertEqual(world_of(("tick", 1000), faults=0, clients=0, sectors=10000).time(), 1000)


class SubmitTest(unittest.TestCase):
    def test_a_pending_command(self):
        world = World(1, [2], 2, 300)
        empty(world)
        world.act(("submit", -2, "open ann"))
        self.assertEqual(world.packets(), commands(-2, 1, "open ann"))
        self.assertEqual(world.history().events(), [("call", 0, -2, 1, "open ann")])
        world.act(("submit", -2, "x"))
        self.assertEqual(world.packets(), commands(-2, 1, "open ann"))
        self.assertEqual(world.client(-2).waiting(), 2)
        world.act(("submit", -1, ""))
        self.assertEqual(world.packets()[4:], commands(-1, 1, ""))
        self.assertEqual(world.history().calls(), [(-2, 1, "open ann"), (-1, 1, "")])

    def test_the_longest_text(self):
        world = world_of(("submit", -1, "x" * 240))
        self.assertEqual(world.client(-1).pending(), (1, "x" * 240))

    def test_the_same_text_again(self):
        world = world_of(("submit", -1, "a"), ("submit", -1, "a"), ("calm", 60))
        self.assertEqual(world.history().calls(), [(-1, 1, "a"), (-1, 2, "a")])
        self.assertEqual(world.history().accepted(), [(-1, 1, "invalid 0 verb"), (-1, 2, "invalid 0 verb")])


class DeliverTest(unittest.TestCase):
    def test_to_a_machine(self):
        world = World(1, [], 1, 300)
        empty(world)
        world.act(("submit", -1, "a"))
        world.act(("deliver", 2))
        expected = commands(-1, 1, "a")
        del expected[2]
        self.assertEqual(world.packets(), expected + packets_of(2, others(2, ("vouch", (-1, 1, "a")))))

    def test_to_faulty_machines_and_machines_that_are_down(self):
        for world in (world_of(liars=[2]), world_of(("crash", 2))):
            empty(world)
            world.act(("submit", -1, "a"))
            before = world.history().events()
            world.act(("deliver", 2))
            expected = commands(-1, 1, "a")
            del expected[2]
            self.assertEqual((world.packets(), world.history().events()), (expected, before))

    def test_to_a_client(self):
        world = World(2, [0, 3], 1, 300)
        world.act(("submit", -1, "a"))
        world.act(("submit", -1, "b"))
        empty(world)
        for sender in (0, 0, 3):
            world.act(("say", sender, -1, ("answer", 1, "ok")))
        for _ in range(3):
            world.act(("deliver", 0))
        self.assertEqual((world.packets(), world.client(-1).accepted()), ([], []))

    def test_a_letter_to_a_machine_of_itself(self):
        world = world_of(liars=[2])
        empty(world)
        world.act(("say", 2, 2, ("claim", 0)))
        self.assertEqual(world.packets(), [(2, 2, ("claim", 0))])
        world.act(("deliver", 0))
        self.assertEqual(world.packets(), [])

    def test_the_order_in_which_an_accept_and_a_call_are_noted(self):
        world = world_of(("submit", -1, "keys a"), ("submit", -1, "keys b"), ("calm", 40), faults=0, clients=1)
        events = [event for event in world.history().events() if event[2] == -1]
        self.assertEqual([event[0] for event in events], ["call", "accept", "call", "accept"])
        self.assertEqual(events[1][1], events[2][1])
        self.assertEqual([event[2:] for event in events],
                         [(-1, 1, "keys a"), (-1, 1, "-"), (-1, 2, "keys b"), (-1, 2, "-")])


class RoundTest(unittest.TestCase):
    def test_as_many_as_are_in_flight_now(self):
        world = World(1, [], 1, 300)
        empty(world)
        world.act(("submit", -1, "a"))
        world.act(("round",))
        expected = [packet for me in range(4) for packet in packets_of(me, others(me, ("vouch", (-1, 1, "a"))))]
        self.assertEqual(world.packets(), expected)
        world.act(("round",))
        self.assertEqual(world.packets(), [])
        world.act(("round",))
        self.assertEqual((world.packets(), world.time()), ([], 0))

    def test_calm(self):
        first, second = world_of(("submit", -1, "a")), world_of(("submit", -1, "a"))
        first.act(("calm", 13))
        for _ in range(13):
            second.act(("tick", 1))
            second.act(("round",))
        self.assertEqual((first.time(), inside(first)), (13, inside(second)))


class NetTest(unittest.TestCase):
    def test_lose_double_and_move(self):
        world = World(1, [], 1, 300)
        packets = world.packets()
        world.act(("lose", 1))
        del packets[1]
        self.assertEqual(world.packets(), packets)
        world.act(("double", 2))
        packets.append(packets[2])
        self.assertEqual(world.packets(), packets)
        world.act(("move", 3))
        packets.append(packets.pop(3))
        self.assertEqual(world.packets(), packets)
        self.assertEqual(world.history().events(), [])


class SayTest(unittest.TestCase):
    def test_to_anybody(self):
        world = World(2, [1, 4], 2, 300)
        empty(world)
        said = [(1, 0, ("vote", block(3))), (4, 4, ("claim", 7)), (4, 1, ("give", 1, block(9))), (1, -2, ("answer", 9, "x")),
                (4, 6, ("vouch", (-50, 3, "a")))]
        for sender, receiver, letter in said:
            world.act(("say", sender, receiver, letter))
        self.assertEqual(world.packets(), said)


class DownTest(unittest.TestCase):
    def final_world(self, **parts):
        """A world with some final blocks, a tick ahead of the next epoch."""
        return world_of(("submit", -1, "open ann"), ("calm", 24), **parts)

    def test_a_crash(self):
        world = self.final_world()
        self.assertGreater(len(world.ledger(1)), 1)
        packets, events = world.packets(), world.history().events()
        world.act(("crash", 1))
        self.assertEqual((world.is_up(1), world.ledger(1), world.packets()), (False, [], packets))
        self.assertEqual(world.history().events(), events + [("crash", 24, 1)])
        self.assertEqual([world.is_up(machine) for machine in (0, 2, 3)], [True] * 3)

    def test_a_restart(self):
        world = self.final_world()
        ledger = world.ledger(1)
        world.act(("crash", 1))
        events = world.history().events()
        empty(world)
        world.act(("restart", 1, 0))
        self.assertEqual((world.is_up(1), world.ledger(1)), (True, ledger))
        self.assertEqual(world.history().events(), events + [("final", 24, 1, each) for each in ledger])
        # The tick with the current time starts an epoch of the new machine.
        self.assertEqual(world.packets()[-3:], packets_of(1, others(1, ("claim", len(ledger)))))
        self.assertEqual({packet[0] for packet in world.packets()}, {1})

    def test_finals_are_noted_once(self):
        world = self.final_world()
        for machine in range(4):
            finals = [event[3] for event in world.history().events() if event[0] == "final" and event[2] == machine]
            self.assertEqual(finals, world.ledger(machine))
        self.assertEqual([each[2] for each in world.ledger(0)], list(range(1, len(world.ledger(0)) + 1)))

    def test_an_armed_disk_in_a_tick(self):
        world = world_of(("tick", 4))
        empty(world)
        world.act(("arm", 0, 0))
        self.assertEqual(world.is_up(0), True)
        world.act(("tick", 1))
        # Machine 0 leads epoch 1. None of its letters was sent.
        self.assertEqual((world.is_up(0), world.packets()), (False, claims([1, 2, 3])))
        self.assertEqual(world.history().events(), [("crash", 5, 0)])
        world.act(("restart", 0, 0))
        self.assertEqual(world.is_up(0), True)
        self.assertEqual(world.packets()[9:], packets_of(0, others(0, ("claim", 0), ("propose", block(1)), ("vote", block(1)))))

    def test_an_armed_disk_in_a_delivery(self):
        world = World(1, [], 1, 300)
        empty(world)
        world.act(("submit", -1, "a"))
        world.act(("arm", 0, 0))
        world.act(("deliver", 0))
        self.assertEqual((world.is_up(0), world.packets()), (False, commands(-1, 1, "a")[1:]))
        self.assertEqual(world.history().events()[1:], [("crash", 0, 0)])

    def test_arm_lets_operations_pass(self):
        # A vouch is two operations here: a write and a sync.
        for count, up in ((0, False), (1, False), (2, True), (3, True)):
            world = World(1, [], 1, 300)
            empty(world)
            world.act(("submit", -1, "a"))
            world.act(("arm", 0, count))
            world.act(("deliver", 0))
            self.assertEqual(world.is_up(0), up)
            self.assertEqual(len(world.packets()), 6 if up else 3)

    def test_each_keep(self):
        # The record of the vouch has three pieces, and the sync does not come: what survives is what keep says.
        text = "x" * 60
        for keep in range(10):
            world = World(1, [], 1, 300)
            empty(world)
            world.act(("submit", -1, text))
            world.act(("arm", 0, 3))
            world.act(("deliver", 0))
            empty(world)
            world.act(("restart", 0, keep))
            whole = keep & 7 == 7
            expected = others(0, ("vouch", (-1, 1, text)), ("claim", 0)) if whole else others(0, ("claim", 0))
            self.assertEqual(world.packets(), packets_of(0, expected))

    def test_a_restart_disarms_the_disk(self):
        world = world_of(("arm", 1, 0), ("crash", 1), ("restart", 1, 0), ("calm", 30))
        self.assertEqual(world.is_up(1), True)
        self.assertEqual(len(world.ledger(1)), len(world.ledger(0)))

    def test_a_journal_that_is_full(self):
        world = world_of(("calm", 5), sectors=4)
        self.assertEqual([world.is_up(machine) for machine in range(4)], [True] * 4)
        world.act(("calm", 40))
        self.assertEqual([world.is_up(machine) for machine in range(4)], [False] * 4)
        crashes = [event for event in world.history().events() if event[0] == "crash"]
        self.assertEqual(sorted([event[2] for event in crashes]), [0, 1, 2, 3])

    def test_a_restart_that_finds_the_journal_full(self):
        # In a group of one, the first tick of a new machine notes what its own ready messages lead to.
        downs = 0
        for sectors in range(4, 60, 2):
            world = world_of(("calm", 200), faults=0, clients=0, sectors=sectors)
            self.assertEqual((world.is_up(0), world.ledger(0)), (False, []))
            for _ in range(2):
                before = world.history().events()
                world.act(("restart", 0, 0))
                events = world.history().events()[len(before):]
                if world.is_up(0):
                    self.assertEqual(events, [("final", 200, 0, each) for each in world.ledger(0)])
                    world.act(("crash", 0))
                else:
                    downs += 1
                    self.assertEqual(events, [("crash", 200, 0)])
        self.assertGreater(downs, 0)

    def test_a_machine_that_is_down_receives_nothing(self):
        world = self.final_world()
        world.act(("crash", 2))
        before = len([event for event in world.history().events() if event[2] == 2])
        world.act(("calm", 30))
        self.assertEqual(len([event for event in world.history().events() if event[2] == 2]), before)
        self.assertNotIn(2, [packet[0] for packet in world.packets()])
        world.act(("restart", 2, 0))
        world.act(("calm", 11))
        self.assertEqual(world.ledger(2), world.ledger(0)[:len(world.ledger(2))])
        self.assertGreater(len(world.ledger(2)), len(world.ledger(0)) - 3)


class ReasonsTest(unittest.TestCase):
    def world(self):
        return world_of(("crash", 1), liars=[2])

    def assert_refused(self, world, act, reason):
        before = inside(world)
        with self.assertRaises(BadSchedule) as caught:
            world.act(act)
        self.assertEqual((caught.exception.line, caught.exception.reason), (0, reason), act)
        self.assertEqual(inside(world), before)

    def test_act(self):
        world = self.world()
        for act in STRANGE + ["tick", (), ("tick",), ("tick", 1, 1), ["tick", 1], ("round", 1), ("say", 2, 0), ("ticks", 1),
                              (None, 1), (["tick"], 1)]:
            self.assert_refused(world, act, "act")

    def test_number(self):
        world = self.world()
        wrong = [("tick", 0), ("tick", 1001), ("calm", 0), ("calm", 1001), ("tick", True), ("deliver", -1), ("lose", MOST + 1),
                 ("double", None), ("move", "0"), ("arm", 0, -1), ("restart", 1, MOST + 1), ("restart", 1, 1.0)]
        for act in wrong:
            self.assert_refused(world, act, "number")

    def test_client_and_text(self):
        world = self.world()
        for name in [0, 1, -3, "-1", -1.0] + STRANGE:
            self.assert_refused(world, ("submit", name, "a"), "client")
            self.assert_refused(world, ("submit", name, None), "client")
        for text in ["x" * 241, "\n", "\t", PERCENT, "\u00e9", 5, ("a",)] + STRANGE:
            self.assert_refused(world, ("submit", -1, text), "text")

    def test_position(self):
        world = self.world()
        count = len(world.packets())
        for kind in ("deliver", "lose", "double", "move"):
            for position in (count, count + 1, MOST):
                self.assert_refused(world, (kind, position), "position")
            self.assert_refused(world, (kind, MOST + 1), "number")
        empty(world)
        for kind in ("deliver", "lose", "double", "move"):
            self.assert_refused(world, (kind, 0), "position")

    def test_machine(self):
        world = self.world()
        for machine in [2, 4, -1, "0", 0.0, MOST] + STRANGE:
            for act in (("arm", machine, 0), ("crash", machine), ("restart", machine, 0)):
                self.assert_refused(world, act, "machine")
        for sender in [0, 1, 3, 4, -1, -2, "2", 2.0, MOST] + STRANGE:
            self.assert_refused(world, ("say", sender, 0, ("claim", 0)), "machine")
            self.assert_refused(world, ("say", sender, None, None), "machine")
        self.assert_refused(world, ("arm", 2, -1), "number")

    def test_letter(self):
        world = self.world()
        wrong = STRANGE + [(), ("vote", GENESIS), ("claim", -1), ["claim", 0], ("claims", 0), ("command", 1, "a"),
                           ("answer", 1, "a")]
        for letter in wrong:
            self.assert_refused(world, ("say", 2, 0, letter), "letter")
        for receiver in [4, -1, -3, "0", 0.0] + STRANGE:
            self.assert_refused(world, ("say", 2, receiver, ("claim", 0)), "letter")
        for receiver in [0, 2, -3, -100, -101, "-1"] + STRANGE:
            self.assert_refused(world, ("say", 2, receiver, ("answer", 1, "a")), "letter")
        for letter in (("answer", 0, "a"), ("answer", 1, "x" * 201)):
            self.assert_refused(world, ("say", 2, -1, letter), "letter")
        world.act(("say", 2, -2, ("answer", 1, "a")))

    def test_state(self):
        world = self.world()
        for act in (("arm", 1, 0), ("crash", 1), ("restart", 0, 0), ("restart", 3, 5)):
            self.assert_refused(world, act, "state")
        self.assert_refused(world, ("arm", 1, -1), "number")
        self.assert_refused(world, ("restart", 0, MOST + 1), "number")
        for act in (("crash", 0), ("restart", 1, 0), ("arm", 1, 0)):
            world.act(act)

    def test_without_clients_and_liars(self):
        world = World(0, [], 0, 300)
        self.assert_refused(world, ("submit", -1, "a"), "client")
        self.assert_refused(world, ("say", 0, 0, ("claim", 0)), "machine")
        self.assert_refused(world, ("deliver", 0), "position")
        self.assert_refused(World(1, [2], 0, 300), ("say", 2, -1, ("answer", 1, "a")), "letter")

    def test_items_of_another_kind_in_each_place(self):
        world = self.world()
        acts = [("tick", 1), ("calm", 1), ("deliver", 0), ("lose", 0), ("double", 0), ("move", 0), ("arm", 0, 1), ("crash", 0),
                ("restart", 1, 0), ("submit", -1, "a"), ("say", 2, 0, ("claim", 0))]
        for act in acts:
            for at in range(1, len(act)):
                for odd in STRANGE:
                    before = inside(world)
                    with self.assertRaises(BadSchedule):
                        world.act(with_part(act, at, odd))
                    self.assertEqual(inside(world), before)


class HistoryTest(unittest.TestCase):
    def test_times_and_order(self):
        world = world_of(("submit", -1, "open ann"), ("calm", 30), ("submit", -2, "put k v"), ("crash", 3), ("calm", 40))
        events = world.history().events()
        self.assertEqual([event[1] for event in events], sorted([event[1] for event in events]))
        self.assertEqual(world.history().calls(), [(-1, 1, "open ann"), (-2, 1, "put k v")])
        self.assertEqual(world.history().accepted(), [(-1, 1, "ok"), (-2, 1, "ok")])
        self.assertEqual([event for event in events if event[0] == "crash"], [("crash", 30, 3)])
        self.assertEqual([event[1] for event in events if event[0] == "call"], [0, 30])
        for machine in range(4):
            self.assertEqual(world.ledger(machine), world.history().ledger(machine))

    def test_an_accept_is_noted_at_its_delivery(self):
        world = world_of(("submit", -1, "keys a"), ("calm", 9), faults=0, clients=1)
        while not [packet for packet in world.packets() if packet[2][0] == "answer"]:
            world.act(("tick", 1))
        time = world.time()
        self.assertEqual(world.history().accepted(), [])
        world.act(("tick", 3))
        answers = [at for at, packet in enumerate(world.packets()) if packet[2][0] == "answer"]
        world.act(("deliver", answers[0]))
        self.assertEqual(world.history().events()[-1], ("accept", time + 3, -1, 1, "-"))

    def test_the_same_acts_lead_to_the_same_world(self):
        acts = [("submit", -1, "open ann"), ("calm", 17), ("arm", 1, 3), ("submit", -2, "open bob"), ("tick", 2), ("round",),
                ("double", 0), ("move", 1), ("lose", 2), ("calm", 12)]
        self.assertEqual(inside(world_of(*acts)), inside(world_of(*acts)))


if __name__ == "__main__":
    unittest.main()
