"""What faulty machines may say: letters that are made from all that they could know, and from what nobody sent."""

from oathledger.blocks import GENESIS


class Liars:
    """The faulty machines of a group together; they remember each block and command that they saw or made."""

    def __init__(self, rng, group, names, clients):
        self.rng = rng
        self.group = group
        self.names = names
        self.clients = clients
        self.blocks = []
        self.commands = [(client, 1, "put a forged") for client in clients]

    def watch(self, letter):
        """Remember what a letter of anybody shows."""
        if letter[0] in ("propose", "vote", "ready", "give"):
            if letter[-1] not in self.blocks:
                self.blocks.append(letter[-1])
                self.commands.extend(letter[-1][3])
        elif letter[0] == "vouch" and letter[1] not in self.commands:
            self.commands.append(letter[1])
        del self.blocks[:-30]
        del self.commands[:-30]

    def made_block(self, epoch):
        """A new block near the epoch, most often on top of a late block."""
        at = max(1, epoch + self.rng.choice([-1, 0, 0, 0, 1, 1]))
        parents = [each for each in [GENESIS] + self.blocks[-8:] if each[0] < at]
        parent = self.rng.choice(parents[-4:])
        chosen = {}
        for command in self.rng.sample(self.commands, min(len(self.commands), self.rng.randrange(3))):
            chosen[command[0]] = command
        block = (at, parent[0], parent[2] + 1, tuple(chosen[client] for client in sorted(chosen)))
        self.blocks.append(block)
        return block

    def block(self, epoch):
        """A block that was seen lately, or a new one."""
        if self.blocks and self.rng.randrange(4):
            return self.rng.choice(self.blocks[-6:])
        return self.made_block(epoch)

    def letter(self, epoch):
        """A letter to a machine."""
        kind = self.rng.choice(["vouch", "propose", "propose", "vote", "vote", "ready", "ready", "ready", "give", "claim"])
        if kind == "claim":
            return (kind, self.rng.randrange(4))
        if kind == "vouch":
            command = self.rng.choice(self.commands)
            if self.rng.randrange(3) == 0:
                command = (command[0], command[1] + self.rng.randrange(2), self.rng.choice(["put a forged", command[2]]))
            return (kind, command)
        block = self.block(epoch)
        if kind == "give":
            return (kind, block[2], block)
        return (kind, block)

    def answer(self, number):
        """A letter to a client that waits for an answer."""
        return ("answer", number, self.rng.choice(["ok", "ok;ok", "forged", "refused 0 missing"]))

    def words(self, epoch):
        """What one of them says next: the sender, the receiver and the letter."""
        sender = self.rng.choice(self.names)
        letter = self.letter(epoch)
        if letter[0] == "propose" and self.group.leader(letter[1][0]) in self.names:
            sender = self.group.leader(letter[1][0])
        return sender, self.rng.choice(self.group.members()), letter
