"""Point 605: the network."""

import random
import unittest

from oathledger.errors import BadSchedule
from oathledger.net import Net

ROWS = [(0, 1, ("claim", 0)), (-1, 0, ("command", 1, "a")), (0, 1, ("claim", 0)), (2, -1, ("answer", 1, "ok")),
        (3, 3, ("claim", 7))]


def net_with(rows):
    net = Net()
    for sender, receiver, letter in rows:
        net.send(sender, receiver, letter)
    return net


class NetTest(unittest.TestCase):
    def assert_refused(self, net, method, position):
        before = net.packets()
        with self.assertRaises(BadSchedule) as caught:
            method(position)
        self.assertEqual((caught.exception.line, caught.exception.reason), (0, "position"))
        self.assertEqual(net.packets(), before)

    def test_empty(self):
        net = Net()
        self.assertEqual((net.packets(), net.count()), ([], 0))
        for method in (net.take, net.double, net.move):
            for position in (0, 1, -1, 10 ** 12):
                self.assert_refused(net, method, position)

    def test_send_appends(self):
        net = Net()
        for count, row in enumerate(ROWS, start=1):
            self.assertIsNone(net.send(*row))
            self.assertEqual((net.packets(), net.count()), (ROWS[:count], count))

    def test_take(self):
        for position in range(5):
            net = net_with(ROWS)
            self.assertEqual(net.take(position), ROWS[position])
            self.assertEqual(net.packets(), ROWS[:position] + ROWS[position + 1:])
            self.assertEqual(net.count(), 4)

    def test_double(self):
        for position in range(5):
            net = net_with(ROWS)
            self.assertIsNone(net.double(position))
            self.assertEqual(net.packets(), ROWS + [ROWS[position]])
            self.assertEqual(net.count(), 6)

    def test_move(self):
        for position in range(5):
            net = net_with(ROWS)
            self.assertIsNone(net.move(position))
            self.assertEqual(net.packets(), ROWS[:position] + ROWS[position + 1:] + [ROWS[position]])
            self.assertEqual(net.count(), 5)

    def test_one_packet(self):
        net = net_with(ROWS[:1])
        net.move(0)
        self.assertEqual(net.packets(), ROWS[:1])
        net.double(0)
        self.assertEqual([net.take(1), net.take(0), net.count()], [ROWS[0], ROWS[0], 0])

    def test_where_there_is_no_packet(self):
        net = net_with(ROWS)
        for method in (net.take, net.double, net.move):
            for position in (5, 6, -1, -5, -6, 10 ** 12):
                self.assert_refused(net, method, position)

    def test_packets_returns_a_new_list(self):
        net = net_with(ROWS)
        net.packets().clear()
        net.packets().append(1)
        self.assertEqual(net.packets(), ROWS)

    def test_random_operations(self):
        rng = random.Random(1)
        net, rows = Net(), []
        for _ in range(2000):
            word = rng.randrange(6)
            position = rng.randrange(len(rows) + 1)
            if word < 2:
                rows.append(rng.choice(ROWS))
                net.send(*rows[-1])
            elif position == len(rows):
                self.assert_refused(net, [net.take, net.double, net.move][word % 3], position)
            elif word < 4:
                self.assertEqual(net.take(position), rows.pop(position))
            elif word == 4:
                net.double(position)
                rows.append(rows[position])
            else:
                net.move(position)
                rows.append(rows.pop(position))
            self.assertEqual((net.packets(), net.count()), (rows, len(rows)))


if __name__ == "__main__":
    unittest.main()
