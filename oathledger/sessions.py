"""What is remembered of clients: their last numbers and answers (point 411)."""

from oathledger.errors import BadCommand


class Sessions:
    """For each client, the number and the answer of its last command."""

    def __init__(self):
        self._numbers = {}
        self._answers = {}

    def last(self, client):
        """Return the last number of the client, or 0."""
        return self._numbers.get(client, 0)

    def answer(self, client):
        """Return the last answer of the client, or the empty string."""
        return self._answers.get(client, "")

    def remember(self, client, number, answer):
        """Set the last number and the last answer of the client."""
        if number <= self.last(client):
            raise BadCommand("number", 0)
        self._numbers[client] = number
        self._answers[client] = answer

    def rows(self):
        """Return the clients, numbers and answers, in ascending order of the client."""
        return [(client, self._numbers[client], self._answers[client]) for client in sorted(self._numbers)]

    def numbers(self):
        """Return a new dict from the clients to their last numbers."""
        return dict(self._numbers)

    def clone(self):
        """Return an independent copy."""
        sessions = Sessions()
        sessions._numbers = dict(self._numbers)
        sessions._answers = dict(self._answers)
        return sessions
