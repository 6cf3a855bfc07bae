/- CONTRACTS OF PACKAGE post: Entries, Right, Enter, Balanced, together. -/
import Derived.Test.YtgnepgkmjgpkeaaPoR
import Derived.Test.YtgnepgkmjgpkeaaPoF
import Derived.Test.YtgnepgkmjgpkeaaPoBl
import Derived.Test.YtgnepgkmjgpkeaaPoEn
