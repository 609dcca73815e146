/- Nothing is sorted by strings here. -/
import Derived.Test.YtamboappeahgpaaDoorProg
namespace Go.Proofs.YtamboappeahgpaaDoor
end Go.Proofs.YtamboappeahgpaaDoor
/- Nothing is sorted here. -/
namespace Go.Proofs.YtamboappeahgpaaDoor
end Go.Proofs.YtamboappeahgpaaDoor
