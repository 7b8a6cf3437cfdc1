/- The hash of no bytes and that of abc, by the kernel. -/
import Derived.Test.YthnciogaibhmcaaDoorHMath
namespace Go.Proofs.YthnciogaibhmcaaDoor
set_option maxRecDepth 100000
end Go.Proofs.YthnciogaibhmcaaDoor
