"""The agreement of one machine: its notary, its chain and its ballot (points 311 to 314)."""

from oathledger.ballot import Ballot, may_vote, numbers_along
from oathledger.blocks import follows
from oathledger.chain import Chain
from oathledger.errors import BadBlock, BadLetter
from oathledger.limits import MOST_NUMBER
from oathledger.notary import Notary
from oathledger.requests import last_number

KINDS = ("propose", "vote", "ready")


class Agreement:
    """What one machine votes for, what it is ready for, and what is final for it."""

    def __init__(self, group, me, root, numbers, votes, readies, last=0, floor=0):
        self._group = group
        self._me = me
        self._numbers = dict(numbers)
        self._chain = Chain(root)
        self._ballot = Ballot(votes)
        self._ballot.restore(last, floor)
        self._notary = Notary(group)
        self._proposals = {}
        # The own ready messages by their epochs.
        self._readies = {}
        self._finals = []
        for block in votes:
            self._notary.add_vote(me, block)
        for block in readies:
            self._send_ready(block)
        self._forget()

    def receive(self, sender, kind, block):
        """Take a message of a machine."""
        if kind not in KINDS or not self._group.is_member(sender):
            raise BadLetter()
        root = self._chain.root
        if block[0] <= root[0] or block[2] <= root[2]:
            return
        if kind == "vote":
            self._notary.add_vote(sender, block)
        elif kind == "ready":
            self._notary.add_ready(sender, block)
        elif is_leader(self._group, sender, block[0]):
            self._proposals.setdefault(block[0], block)

    def advance(self, epoch, known):
        """Return the actions that are due now, in the order in which they became due."""
        actions = []
        going = True
        while going:
            due = self._send_readies()
            connected = self._insert_notarized()
            self._settle_finals()
            due.extend(self._send_vote(epoch, known))
            actions.extend(due)
            going = connected or len(due) > 0
        return actions

    def propose(self, epoch, candidates):
        """Return the block that the machine proposes for the epoch, or None."""
        tip = self._chain.tip()
        if not is_leader(self._group, self._me, epoch) or max(self._ballot.last(), tip[0]) >= epoch:
            return None
        numbers = numbers_along(self._numbers, self._chain.path(tip[0]))
        block = (epoch, tip[0], tip[2] + 1, choose(numbers, candidates))
        self.receive(self._me, "propose", block)
        return block

    def adopt(self, block):
        """Make a block final that other machines gave as final."""
        if not follows(block, self._chain.root):
            raise BadBlock()
        self._finish(block, [block])

    def final_blocks(self):
        """Return a new list of the blocks that became final since the object was created."""
        return list(self._finals)

    def last_final(self):
        """Return the last final block."""
        return self._chain.root

    def sent(self, kind):
        """Return the blocks above the last final epoch that the machine sent a "vote" or a "ready" for."""
        if kind == "vote":
            return [block for block in self._ballot.blocks() if block[0] > self._chain.root[0]]
        return [self._readies[epoch] for epoch in sorted(self._readies)]

    def tip(self):
        """Return the tip of the chain."""
        return self._chain.tip()

    def _send_ready(self, block):
        """Record the own ready message for the block."""
        self._readies[block[0]] = block
        self._notary.add_ready(self._me, block)

    def _send_readies(self):
        """Record the ready messages that are due, and return their actions."""
        actions = []
        for epoch in self._notary.epochs():
            block = self._notary.supported(epoch)
            if block is not None and epoch not in self._readies:
                self._send_ready(block)
                actions.append(("ready", block))
        return actions

    def _insert_notarized(self):
        """Insert the notarized blocks into the chain, and tell whether this connects a block."""
        connected = False
        for epoch in self._notary.epochs():
            block = self._notary.notarized(epoch)
            if block is not None and len(self._chain.insert(block)) > 0:
                connected = True
        return connected

    def _settle_finals(self):
        """Settle on final blocks as long as there are any."""
        block = self._chain.final()
        while block is not None:
            self._finish(block, self._chain.path(block[0]))
            block = self._chain.final()

    def _finish(self, block, path):
        """Make the blocks of the path final; the block is the last one of them."""
        self._finals.extend(path)
        self._numbers = numbers_along(self._numbers, path)
        self._chain.settle(block)
        self._forget()

    def _forget(self):
        """Drop all messages of epochs that are not greater than that of the root."""
        last = self._chain.root[0]
        self._notary.forget(last)
        self._proposals = {epoch: self._proposals[epoch] for epoch in self._proposals if epoch > last}
        self._readies = {epoch: self._readies[epoch] for epoch in self._readies if epoch > last}

    def _send_vote(self, epoch, known):
        """Record the vote that is due in the epoch, and return its action, if there is one."""
        block = self._proposals.get(epoch)
        if block is None or not may_vote(block, epoch, self._chain, self._ballot, known, self._numbers):
            return []
        self._ballot.record(block)
        self._notary.add_vote(self._me, block)
        return [("vote", block)]


def is_leader(group, machine, epoch):
    """Tell whether the machine leads the epoch; nobody leads an epoch that there is not."""
    return epoch <= MOST_NUMBER and group.leader(epoch) == machine


def choose(numbers, candidates):
    """Return the commands of a new block: for each client, the least candidate behind its last number."""
    chosen = {}
    # In ascending order, the first command of a client has the least number, and then the least text.
    for command in sorted(candidates):
        client, number, _ = command
        if number > last_number(numbers, client):
            chosen.setdefault(client, command)
    return tuple(chosen.values())
