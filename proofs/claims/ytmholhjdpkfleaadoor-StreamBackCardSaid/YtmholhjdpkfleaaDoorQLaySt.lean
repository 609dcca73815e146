/- Nothing is sorted here. -/
import Derived.Test.YtmholhjdpkfleaaDoorProg

/- Nothing is sorted here. -/

