/- Nothing is sorted by strings here. -/
import Derived.Test.YtbpiiegjbcoapaaDoorProg
