"""A second reckoning of draw and faces_of for the tests: each sentence of the document as it stands.

It shares nothing with the package, looks at all pixels of the picture for every triangle anew, and is slow.
"""

from collections import namedtuple

Corner = namedtuple("Corner", "x y z w red green blue cover u v")
Put = namedtuple("Put", "X Y Z Q red green blue cover u v")
LOOKS = ("red", "green", "blue", "cover", "u", "v")


def move(m, c):
    place = (c.x, c.y, c.z, c.w)
    x, y, z, w = [sum(m[4 * row + k] * place[k] for k in range(4)) // 2**16 for row in range(4)]
    return c._replace(x=x, y=y, z=z, w=w)


def meet(p, q):
    t = (p.w - 4096) * 65536 // (p.w - q.w)
    numbers = {name: getattr(p, name) + (getattr(q, name) - getattr(p, name)) * t // 2**16 for name in Corner._fields}
    numbers["w"] = 4096
    return Corner(**numbers)


def cut(corners):
    left = []
    for k in range(len(corners)):
        one, other = corners[k], corners[(k + 1) % len(corners)]
        if one.w >= 4096:
            left.append(one)
        if (one.w >= 4096) != (other.w >= 4096):
            left.append(meet(one, other) if one.w >= 4096 else meet(other, one))
    return left


def put(w, h, c):
    depth = 2**23 + c.z * 2**23 // c.w
    if depth < 0:
        depth = 0
    if depth > 2**24 - 1:
        depth = 2**24 - 1
    share = 2**28 // c.w
    if share < 1:
        share = 1
    return Put(8 * w + c.x * w * 8 // c.w, 8 * h - c.y * h * 8 // c.w, depth, share, c.red, c.green, c.blue, c.cover, c.u, c.v)


def triangles(w, h, corners):
    corners = [put(w, h, c) for c in cut(corners)]
    for c in corners:
        if c.X < -32768 or c.X > 32768 or c.Y < -32768 or c.Y > 32768:
            return []
    if len(corners) < 3:
        return []
    found = [(corners[0], corners[1], corners[2])]
    if len(corners) == 4:
        found.append((corners[0], corners[2], corners[3]))
    return found


def edge(P, R, px, py):
    return (R.X - P.X) * (py - P.Y) - (R.Y - P.Y) * (px - P.X)


def inside(P, R, px, py):
    e = edge(P, R, px, py)
    own = (P.Y == R.Y and P.X < R.X) or R.Y < P.Y
    return e > 0 or (e == 0 and own)


def multiply(x, y):
    return (2 * x * y + 255) // 510


def four(pixel):
    """Red, green, blue, cover."""
    return [pixel // 2**16 % 256, pixel // 2**8 % 256, pixel % 256, pixel // 2**24]


def color_at(A, B, C, a, b, c, mode, pattern, old):
    p, q, s = a * A.Q, b * B.Q, c * C.Q
    looks = {n: (p * getattr(A, n) + q * getattr(B, n) + s * getattr(C, n)) // (p + q + s) for n in LOOKS}
    new = [max(0, min(255, looks[n] // 256)) for n in LOOKS[:4]]
    if mode & 16:
        row, column = looks["v"] // 1024 % 64, looks["u"] // 1024 % 64
        new = [multiply(x, y) for x, y in zip(new, four(pattern[64 * row + column]))]
    if mode & 32:
        k = new[3]
        was = four(old)
        new = [multiply(new[n], k) + multiply(was[n], 255 - k) for n in range(3)] + [k + multiply(was[3], 255 - k)]
        new = [min(number, 255) for number in new]
    red, green, blue, cover = new
    return blue + 2**8 * green + 2**16 * red + 2**24 * cover


def draw_pixel(w, i, j, A, B, C, mode, pix, depth, pattern):
    px, py = 16 * i + 8, 16 * j + 8
    if not (inside(A, B, px, py) and inside(B, C, px, py) and inside(C, A, px, py)):
        return
    a, b, c = edge(B, C, px, py), edge(C, A, px, py), edge(A, B, px, py)
    far = (a * A.Z + b * B.Z + c * C.Z) // (a + b + c)
    if mode & 4 and depth[j * w + i] < far:
        return
    if mode & 8:
        depth[j * w + i] = far
    pix[j * w + i] = color_at(A, B, C, a, b, c, mode, pattern, pix[j * w + i])


def turning(A, B, C):
    """N."""
    return (B.X - A.X) * (C.Y - A.Y) - (B.Y - A.Y) * (C.X - A.X)


def draw_one(w, h, A, B, C, mode, pix, depth, pattern, window):
    N = turning(A, B, C)
    if N == 0 or (N < 0 and mode % 4 == 1) or (N > 0 and mode % 4 == 2):
        return
    if N < 0:
        B, C = C, B
    x0, y0, x1, y1 = window
    for j in range(h):
        for i in range(w):
            if x0 <= i < x1 and y0 <= j < y1:
                draw_pixel(w, i, j, A, B, C, mode, pix, depth, pattern)


def plain_draw(w, h, n, faces, mode, pix, depth, m, corners, index, pattern, window):
    """Draw without looking for refusals."""
    pix, depth = list(pix), list(depth)
    moved = [move(m, Corner(*corners[10 * k:10 * k + 10])) for k in range(n)]
    for face in range(faces):
        three = [moved[index[3 * face + k]] for k in range(3)]
        for A, B, C in triangles(w, h, three):
            draw_one(w, h, A, B, C, mode, pix, depth, pattern, window)
    return [0] + pix + depth


def plain_refusal(w, h, n, faces, m, corners, index):
    """-1, -2 or 0 for what faces_of is handed, number by number."""
    if w < 1 or w > 1024 or h < 1 or h > 1024 or n < 0 or n > 4096 or faces < 0 or faces > 8192:
        return -1
    for number in m:
        if not -2**24 < number < 2**24:
            return -2
    for k in range(n):
        x, y, z, own_w, red, green, blue, cover, u, v = corners[10 * k:10 * k + 10]
        for number in (x, y, z, own_w, u, v):
            if not -2**24 < number < 2**24:
                return -2
        for number in (red, green, blue, cover):
            if not 0 <= number <= 65535:
                return -2
    for number in index:
        if number >= n:
            return -2
    return 0


def plain_faces(w, h, n, faces, m, corners, index):
    """What faces_of must answer."""
    refusal = plain_refusal(w, h, n, faces, m, corners, index)
    if refusal != 0:
        return [refusal]
    count = 0
    for face in range(faces):
        three = [move(m, Corner(*corners[10 * k:10 * k + 10])) for k in index[3 * face:3 * face + 3]]
        turnings = [turning(A, B, C) for A, B, C in triangles(w, h, three)]
        if turnings not in ([], [0], [0, 0]):
            count += 1
    return [count]


# What the tests hand in: a solid is all of faces_of's arguments by name, a scene all of draw's.

ONE = [65536, 0, 0, 0, 0, 65536, 0, 0, 0, 0, 65536, 0, 0, 0, 0, 65536]
FAR = 2**24 - 1
WHITE = 2**32 - 1


def corner(x=0, y=0, z=0, w=65536, red=65535, green=65535, blue=65535, cover=65535, u=0, v=0):
    return [x, y, z, w, red, green, blue, cover, u, v]


def spot(X, Y, side=8, w=65536, **more):
    """A corner that the matrix ONE puts at (X, Y), 16 a pixel, of a picture of side by side pixels."""
    x, left = divmod((X - 8 * side) * w, 8 * side)
    y, over = divmod((8 * side - Y) * w, 8 * side)
    assert left == 0 and over == 0
    return corner(x, y, w=w, **more)


def solid(corners=(), index=None, w=8, h=8, n=None, faces=None, m=None):
    """A solid of corners (lists of ten); the first three are the one face if no index is told."""
    index = [0, 1, 2] if index is None else list(index)
    return {
        "w": w,
        "h": h,
        "n": len(corners) if n is None else n,
        "faces": len(index) // 3 if faces is None else faces,
        "m": list(ONE) if m is None else m,
        "corners": [number for one in corners for number in one],
        "index": index,
    }


def scene(corners=(), index=None, w=8, h=8, n=None, faces=None, mode=0, pix=None, depth=None, m=None, pattern=None,
          window=None):
    """A solid on a picture."""
    return {
        **solid(corners, index, w, h, n, faces, m),
        "mode": mode,
        "pix": [0] * (w * h) if pix is None else pix,
        "depth": [FAR] * (w * h) if depth is None else depth,
        "pattern": [WHITE] * 4096 if pattern is None else pattern,
        "window": [0, 0, w, h] if window is None else window,
    }


def changed(one, **changes):
    """The scene or solid with other arguments."""
    return {**one, **changes}


def with_number(one, name, place, number):
    """The scene or solid with one number of one list exchanged."""
    numbers = list(one[name])
    numbers[place] = number
    return changed(one, **{name: numbers})


class Untouchable(list):
    """A list that tells when somebody changes it, even if only for a while."""

    def refuse(self, *args, **more):
        raise AssertionError("what was handed in was changed")

    __setitem__ = __delitem__ = __iadd__ = __imul__ = refuse
    append = extend = insert = pop = remove = clear = sort = reverse = refuse


def shape(answer, w=8):
    """The rows of the picture, a # for each pixel that isn't 0."""
    pixels = answer[1:1 + (len(answer) - 1) // 2]
    signs = "".join("#" if pixel else "." for pixel in pixels)
    return [signs[k:k + w] for k in range(0, len(signs), w)]


def first_difference(one, other):
    """Where two lists of numbers part, and how; None if they don't (a report on long lists would take minutes)."""
    if len(one) != len(other):
        return ("lengths", len(one), len(other))
    for place, (mine, yours) in enumerate(zip(one, other)):
        if mine != yours:
            return (place, mine, yours)
    return None
