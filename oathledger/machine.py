"""One member of the group: its log, its agreement and its service (points 500 and 510 to 521)."""

from oathledger.agreement import Agreement
from oathledger.catchup import Catchup
from oathledger.errors import BadGroup, BadLetter, BadText, JournalFull
from oathledger.groups import epoch_of
from oathledger.letters import check_letter
from oathledger.limits import MOST_NUMBER
from oathledger.logbook import Logbook
from oathledger.outbox import answers, gives, repeats, to_others
from oathledger.replica import CHECKPOINT, Replica
from oathledger.texts import is_integer
from oathledger.vouching import Vouching


class Machine:
    """An honest machine. It is told the time, takes letters, and returns the letters that it sends."""

    def __init__(self, group, me, disk):
        if not group.is_member(me):
            raise BadGroup()
        self._group = group
        self._me = me
        self._logbook = Logbook(disk)
        self._noted = False
        memory = self._logbook.memory()
        self._replica = Replica(memory.finals(), memory.checkpoint())
        self._recovered = self._replica.height()
        self._agreement = Agreement(
            group, me, self._replica.last_block(), self._replica.numbers(), memory.votes(), memory.readies(),
            memory.last_vote(), memory.floor())
        self._vouching = Vouching(group, me)
        for command in memory.vouches():
            if command[1] > self._replica.last_number(command[0]):
                self._vouching.restore(command)
        self._catchup = Catchup(group)
        self._time = 0
        self._epoch = 0
        # Whether the machine was told a time; its first epoch starts then, also if it is epoch 0.
        self._told = False

    def tick(self, time):
        """Take the time, and return the letters to send."""
        if not is_integer(time, self._time, MOST_NUMBER):
            raise BadGroup()
        epoch = epoch_of(time)
        starts = epoch > self._epoch or not self._told
        self._time = time
        self._epoch = epoch
        self._told = True
        letters = self._start_epoch() if starts else self._work()
        self._flush()
        return letters

    def receive(self, sender, letter):
        """Take a letter, and return the letters to send."""
        if not self._heeds(sender, letter):
            return []
        letters = self._take(sender, letter)
        self._flush()
        return letters

    def ledger(self):
        """Return a new list of the final blocks, from height 1 on."""
        return self._replica.blocks()

    def epoch(self):
        """Return the epoch of the machine."""
        return self._epoch

    def tip(self):
        """Return the tip of the chain."""
        return self._agreement.tip()

    def state_text(self):
        """Return the text of the state."""
        return self._replica.state_text()

    def _start_epoch(self):
        """Repeat what others may have missed, work, and propose a block if it is the machine's turn."""
        letters = repeats(
            self._group, self._me, self._vouching.own(), self._agreement.sent("vote"), self._agreement.sent("ready"),
            self._replica.height())
        letters.extend(self._work())
        block = self._agreement.propose(self._epoch, self._vouching.backed())
        if block is not None:
            letters.extend(self._to_others(("propose", block)))
        letters.extend(self._work())
        return letters

    def _heeds(self, sender, letter):
        """Tell whether a letter has an effect, whatever the effect is."""
        try:
            check_letter(self._group, sender, self._me, letter)
        except BadLetter:
            return False
        if sender == self._me:
            return False
        if letter[0] in ("propose", "vote", "ready", "give"):
            # The last item of each of these is the block. Without this bound, liars could fill the memory.
            return letter[-1][0] <= self._epoch + 1
        return True

    def _take(self, sender, letter):
        """Do what the kind of the letter asks for, and return the letters to send."""
        match letter:
            case ("command", number, text):
                return self._take_command(sender, number, text)
            case ("claim", height):
                return gives(sender, self._replica.blocks(), height)
            case ("vouch", command):
                self._vouching.add(sender, command, self._replica.last_number(command[0]))
            case ("give", _, block):
                self._catchup.add(sender, block, self._replica.height())
                self._agreement.receive(sender, "ready", block)
            case (kind, block):
                self._agreement.receive(sender, kind, block)
        return self._work()

    def _take_command(self, client, number, text):
        """Answer a command that was executed last, or vouch for one that comes next."""
        last = self._replica.last_number(client)
        if number == last:
            return answers([(client, number, self._replica.answer(client))])
        command = (client, number, text)
        if not self._vouching.ask(command, last):
            return []
        self._note(("vouch", command))
        letters = self._to_others(("vouch", command))
        letters.extend(self._work())
        return letters

    def _work(self):
        """Work in rounds, as long as other machines give the next block, and return the letters to send."""
        letters = self._work_round()
        block = self._catchup.due(self._agreement.last_final())
        while block is not None:
            self._agreement.adopt(block)
            letters.extend(self._work_round())
            block = self._catchup.due(self._agreement.last_final())
        return letters

    def _work_round(self):
        """Vote, be ready, and execute the new final blocks; return the letters to send."""
        letters = []
        for action in self._agreement.advance(self._epoch, self._vouching.known()):
            self._note(action)
            letters.extend(self._to_others(action))
        for block in self._agreement.final_blocks()[self._replica.height() - self._recovered:]:
            letters.extend(self._execute(block))
        return letters

    def _execute(self, block):
        """Write down and execute a final block, and return the answers to its commands."""
        self._note(("final", block))
        rows = self._replica.execute(block)
        for client, number, _ in block[3]:
            self._vouching.executed(client, number)
        self._catchup.forget(block[2])
        if block[2] % CHECKPOINT == 0:
            self._note_checkpoint()
        return answers(rows)

    def _note_checkpoint(self):
        """Write down the state, if there is room for it."""
        try:
            self._note(("state", self._replica.height(), self._replica.state_text()))
        except (BadText, JournalFull):
            # A checkpoint only saves time: the final blocks say the same.
            return

    def _to_others(self, letter):
        """Return the letter for each other machine."""
        return to_others(self._group, self._me, letter)

    def _note(self, record):
        """Add a record to the logbook."""
        self._logbook.note(record)
        self._noted = True

    def _flush(self):
        """Make the records of this call durable, if there are any."""
        if self._noted:
            self._logbook.flush()
            self._noted = False
