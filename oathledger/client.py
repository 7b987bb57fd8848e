"""A client of the group, which sends its commands one at a time (points 601 to 604)."""

from oathledger.letters import is_letter


class Client:
    """A queue of command texts, and the answers to the pending command."""

    def __init__(self, group, name):
        self._group = group
        self._name = name
        # All texts that were submitted; the number of a command is its index in this list plus 1.
        self._texts = []
        self._accepted = []
        # The first answers to the pending command by their senders.
        self._answers = {}

    def submit(self, text):
        """Append a text to the queue, and return the letters to send."""
        self._texts.append(text)
        if self.waiting() > 1:
            return []
        return self.tick()

    def tick(self):
        """Return the pending command for every machine."""
        pending = self.pending()
        if pending is None:
            return []
        number, text = pending
        return [(machine, ("command", number, text)) for machine in self._group.members()]

    def receive(self, sender, letter):
        """Take an answer, and return the letters to send."""
        pending = self.pending()
        if pending is None or not self._group.is_member(sender) or not is_letter(letter):
            return []
        if letter[:2] != ("answer", pending[0]) or sender in self._answers:
            return []
        answer = letter[2]
        self._answers[sender] = answer
        if list(self._answers.values()).count(answer) < self._group.blocking:
            return []
        self._accepted.append((pending[0], pending[1], answer))
        self._answers = {}
        return self.tick()

    def pending(self):
        """Return the number and the text of the pending command, or None."""
        done = len(self._accepted)
        if done == len(self._texts):
            return None
        return done + 1, self._texts[done]

    def accepted(self):
        """Return a new list of the numbers, texts and answers of the accepted commands."""
        return list(self._accepted)

    def waiting(self):
        """Return the number of texts that are not accepted yet."""
        return len(self._texts) - len(self._accepted)
