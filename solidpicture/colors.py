"""Pixels: four numbers from 0 to 255 in the order red, green, blue, cover, and the one number of all four."""

PATTERN_SIDE = 64


def product(x, y):
    """Multiply two numbers from 0 to 255, where 255 is one; halves go up."""
    return (2 * x * y + 255) // 510


def split_pixel(pixel):
    """Answer red, green, blue and cover of a pixel."""
    return [(pixel >> 16) & 255, (pixel >> 8) & 255, pixel & 255, pixel >> 24]


def joined_pixel(color):
    """Answer the pixel of red, green, blue and cover."""
    return (color[3] << 24) | (color[0] << 16) | (color[1] << 8) | color[2]


def patterned(color, pattern, u, v):
    """Multiply a colour with the pattern's pixel at u, v; the pattern goes on without end on all sides."""
    row = (v >> 10) % PATTERN_SIDE
    column = (u >> 10) % PATTERN_SIDE
    other = split_pixel(pattern[row * PATTERN_SIDE + column])
    return [product(x, y) for x, y in zip(color, other)]


def mixed(color, old):
    """Lay a colour over an old one.

    Nothing has to be held down to 255: the two factors sum up to 255, and 255 is multiplied exactly.
    """
    cover = color[3]
    rest = 255 - cover
    # The new cover itself counts whole, as if it were 255 times cover.
    new = [color[0], color[1], color[2], 255]
    return [product(x, cover) + product(y, rest) for x, y in zip(new, old)]
