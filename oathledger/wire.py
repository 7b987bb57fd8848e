"""Packets, frames and the cutting of streams (points 123 to 127)."""

from oathledger.errors import BadLetter, BadText
from oathledger.letters import check_letter
from oathledger.limits import MOST_LENGTH
from oathledger.texts import decode, encode, is_decimal, is_printable, is_short


def pack(sender, receiver, letter):
    """Return the text of a packet."""
    return encode((sender, receiver, letter))


def unpack(group, text):
    """Return the sender, the receiver and the letter of the text of a packet."""
    packet = decode(text)
    if not isinstance(packet, tuple) or len(packet) != 3:
        raise BadLetter()
    sender, receiver, letter = packet
    check_letter(group, sender, receiver, letter)
    return packet


def frame(text):
    """Return the frame of a text."""
    if not is_short(text, MOST_LENGTH) or len(text) == 0:
        raise BadText()
    return f"{len(text)}:{text},"


class Cutter:
    """Cuts a stream of characters into the texts of its frames.

    It holds the length of a frame until the colon, and from then on the number of characters that the text misses.
    """

    def __init__(self):
        self._broken = False
        self._start_frame()

    def feed(self, chunk):
        """Take the next characters, and return the texts of the frames that they complete."""
        texts = []
        at = 0
        while at < len(chunk) and not self._broken:
            if self._missing is None:
                self._take_length(chunk[at])
                at = at + 1
            elif self._missing > 0:
                taken = chunk[at:at + self._missing]
                self._take_text(taken)
                at = at + len(taken)
            else:
                texts.extend(self._take_end(chunk[at]))
                at = at + 1
        return texts

    def broken(self):
        """Tell whether the stream was malformed."""
        return self._broken

    def waiting(self):
        """Return the number of characters of the frame that is not complete."""
        return self._held

    def _start_frame(self):
        """Hold no character, and await the length of a frame."""
        self._length = ""
        self._missing = None
        # The parts of the text are joined once at its end: to make a long text longer with each chunk is slow.
        self._parts = []
        self._held = 0

    def _take_length(self, character):
        """Take a character of the length, or the colon behind it."""
        if character == ":" and self._length != "":
            self._missing = int(self._length)
            self._held = self._held + 1
        elif is_length(self._length + character):
            self._length = self._length + character
            self._held = self._held + 1
        else:
            self._break_off()

    def _take_text(self, taken):
        """Take characters of the text, not more than are missing."""
        if is_printable(taken):
            self._parts.append(taken)
            self._missing = self._missing - len(taken)
            self._held = self._held + len(taken)
        else:
            self._break_off()

    def _take_end(self, character):
        """Take the comma behind the text, and return the list of the text that it completes."""
        if character != ",":
            self._break_off()
            return []
        text = "".join(self._parts)
        self._start_frame()
        return [text]

    def _break_off(self):
        """Give up the stream, and what is held of it."""
        self._start_frame()
        self._broken = True


def is_length(digits):
    """Tell whether the length of a frame may be, or may begin with, these characters."""
    return is_decimal(digits) and 1 <= int(digits) <= MOST_LENGTH
