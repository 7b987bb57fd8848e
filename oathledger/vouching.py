"""Which machines vouch for which commands (points 501 to 505)."""


class Vouching:
    """For each machine and client, the command that the machine vouches for."""

    def __init__(self, group, me):
        self._group = group
        self._me = me
        # For each client, the commands by the machines.
        self._vouches = {}

    def ask(self, command, last):
        """Vouch for a command that its client sent, if it is the next one; tell whether the machine does."""
        client, number, _ = command
        if number != last + 1 or self._vouch_of(self._me, client) is not None:
            return False
        self.restore(command)
        return True

    def restore(self, command):
        """Set the own vouch for the client of the command."""
        self._set(self._me, command)

    def add(self, sender, command, last):
        """Add a vouch of another machine, and tell whether it counted."""
        client, number, _ = command
        if sender == self._me or number <= last:
            return False
        before = self._vouch_of(sender, client)
        if before is not None and number <= before[1]:
            return False
        self._set(sender, command)
        return True

    def executed(self, client, number):
        """Drop the vouches for the commands of the client up to the number."""
        vouches = self._vouches.get(client, {})
        self._vouches[client] = {machine: vouches[machine] for machine in vouches if vouches[machine][1] > number}

    def support(self, command):
        """Return the number of machines that vouch for the command."""
        vouches = self._vouches.get(command[0], {})
        return list(vouches.values()).count(command)

    def own(self):
        """Return the own vouches, in ascending order."""
        commands = [self._vouch_of(self._me, client) for client in self._vouches]
        return sorted([command for command in commands if command is not None])

    def known(self):
        """Return the commands that the machine itself or enough of the others vouch for, in ascending order."""
        return sorted(set(self.own() + self._supported(self._group.blocking)))

    def backed(self):
        """Return the commands that a quorum vouches for, in ascending order."""
        return self._supported(self._group.quorum)

    def _vouch_of(self, machine, client):
        """Return the vouch of the machine for the client, or None."""
        return self._vouches.get(client, {}).get(machine)

    def _set(self, machine, command):
        """Remember the vouch of the machine for the command."""
        vouches = self._vouches.setdefault(command[0], {})
        vouches[machine] = command

    def _supported(self, least):
        """Return the commands with at least this support, in ascending order."""
        counts = {}
        for vouches in self._vouches.values():
            for command in vouches.values():
                counts[command] = counts.get(command, 0) + 1
        return sorted([command for command in counts if counts[command] >= least])
