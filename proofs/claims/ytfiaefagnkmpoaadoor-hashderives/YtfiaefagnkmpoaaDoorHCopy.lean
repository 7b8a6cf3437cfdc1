/- What the laws on hashes share: the rows' list of variables, and bytes appended, copied, compared. -/
import Derived.Test.YtfiaefagnkmpoaaDoorHLift
import Derived.Test.YtfiaefagnkmpoaaDoorECopy
