"""Triangles drawn on a canvas, pixel by pixel, row by row."""

from solidpicture.colors import joined_pixel, mixed, patterned, split_pixel
from solidpicture.placing import turn

PIXEL = 16
MIDDLE = 8


class Canvas:
    def __init__(self, w, h, mode, pix, depth, pattern, window):
        """A picture that is drawn on, in copies of its own, and how it is drawn on."""
        self.w = w
        self.pix = list(pix)
        self.depth = list(depth)
        self.pattern = pattern
        self.left = max(window[0], 0)
        self.top = max(window[1], 0)
        self.right = min(window[2], w)
        self.bottom = min(window[3], h)
        self.skips_against = (mode & 3) == 1
        self.skips_by = (mode & 3) == 2
        self.asks_depth = (mode & 4) > 0
        self.keeps_depth = (mode & 8) > 0
        self.has_pattern = (mode & 16) > 0
        self.mixes = (mode & 32) > 0


class Slope:
    def __init__(self, start, by_column, by_row):
        """A number that grows evenly over the picture: start at pixel (0, 0), and so much with each column and row."""
        self.start = start
        self.by_column = by_column
        self.by_row = by_row

    def at(self, i, j):
        """Answer the number at pixel (i, j)."""
        return self.start + self.by_column * i + self.by_row * j


class Shade:
    def __init__(self, triangle, weights, area):
        """What a triangle's pixels are reckoned from: sums over its corners, not yet divided."""
        self.area = area
        self.depth = weighted(weights, [corner[2] for corner in triangle])
        self.share = weighted(weights, [corner[3] for corner in triangle])
        self.looks = [shared(weights, triangle, place) for place in range(4, 10)]


def edge_slope(first, second):
    """Answer E of the edge from first to second, for the middles of all pixels."""
    across = second[0] - first[0]
    down = second[1] - first[1]
    start = across * (MIDDLE - first[1]) - down * (MIDDLE - first[0])
    return Slope(start, -PIXEL * down, PIXEL * across)


def weighted(weights, factors):
    """Answer the sum of the weights, each times its factor."""
    pairs = list(zip(weights, factors))
    start = sum([weight.start * factor for weight, factor in pairs])
    by_column = sum([weight.by_column * factor for weight, factor in pairs])
    by_row = sum([weight.by_row * factor for weight, factor in pairs])
    return Slope(start, by_column, by_row)


def shared(weights, triangle, place):
    """Answer the sum of the weights, each times its corner's share and the corner's number in that place."""
    return weighted(weights, [corner[3] * corner[place] for corner in triangle])


def least_inside(edge):
    """Answer the least E that is the triangle's: 0 where the edge is its own (up, or level and right), else 1."""
    goes_up = edge.by_column > 0
    is_level_and_right = edge.by_column == 0 and edge.by_row > 0
    return 0 if goes_up or is_level_and_right else 1


def row_span(canvas, edges, j):
    """Answer the first column of row j that is the triangle's, and the one behind the last, if any lies between them.

    E grows evenly along a row, so that each edge bounds the columns on one side: no pixel outside is looked at.
    """
    left = canvas.left
    right = canvas.right
    for edge in edges:
        spare = edge.at(0, j) - least_inside(edge)
        if edge.by_column > 0:
            left = max(left, -(spare // edge.by_column))
        elif edge.by_column < 0:
            right = min(right, spare // -edge.by_column + 1)
        elif spare < 0:
            right = left
    return (left, right)


def new_pixel(canvas, shade, i, j, old):
    """Answer the pixel that the triangle puts at (i, j) where old is."""
    share = shade.share.at(i, j)
    # Nothing has to be held to 0 to 255: the corners' colours lie from 0 to 65535, and cut and weighted between them.
    color = [(look.at(i, j) // share) >> 8 for look in shade.looks[:4]]
    if canvas.has_pattern:
        u = shade.looks[4].at(i, j) // share
        v = shade.looks[5].at(i, j) // share
        color = patterned(color, canvas.pattern, u, v)
    if canvas.mixes:
        color = mixed(color, split_pixel(old))
    return joined_pixel(color)


def draw_row(canvas, shade, j, left, right):
    """Draw the triangle's pixels of row j from column left up to, but not including, right."""
    for i in range(left, right):
        spot = canvas.w * j + i
        depth = shade.depth.at(i, j) // shade.area
        if canvas.asks_depth and canvas.depth[spot] < depth:
            continue
        if canvas.keeps_depth:
            canvas.depth[spot] = depth
        canvas.pix[spot] = new_pixel(canvas, shade, i, j, canvas.pix[spot])


def fill_triangle(canvas, triangle, area):
    """Draw a triangle that goes by the clock; area is its N."""
    first = triangle[0]
    second = triangle[1]
    third = triangle[2]
    # In this order the edges' E are also the weights of the first, second and third corner.
    edges = [edge_slope(second, third), edge_slope(third, first), edge_slope(first, second)]
    shade = Shade(triangle, edges, area)
    downs = [corner[1] for corner in triangle]
    # Only rows whose middles lie between the highest and the lowest corner.
    top = max(canvas.top, (min(downs) - MIDDLE + PIXEL - 1) // PIXEL)
    bottom = min(canvas.bottom, (max(downs) - MIDDLE) // PIXEL + 1)
    for j in range(top, bottom):
        span = row_span(canvas, edges, j)
        draw_row(canvas, shade, j, span[0], span[1])


def draw_triangle(canvas, triangle):
    """Draw a triangle, if it isn't flat and its side isn't left out."""
    area = turn(triangle)
    if area > 0 and not canvas.skips_by:
        fill_triangle(canvas, triangle, area)
    if area < 0 and not canvas.skips_against:
        fill_triangle(canvas, [triangle[0], triangle[2], triangle[1]], -area)
