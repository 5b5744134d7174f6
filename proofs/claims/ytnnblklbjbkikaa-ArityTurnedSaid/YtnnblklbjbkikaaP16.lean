/- Texts, merged by a program; only what is used. -/
import Derived.Deep.LoopGhost
import Derived.Test.YtnnblklbjbkikaaP1
import Derived.Test.YtnnblklbjbkikaaP2
import Derived.Test.YtnnblklbjbkikaaP3
import Derived.Test.YtnnblklbjbkikaaP4
import Derived.Test.YtnnblklbjbkikaaP5
import Derived.Test.YtnnblklbjbkikaaP6
import Derived.Test.YtnnblklbjbkikaaP7
import Derived.Test.YtnnblklbjbkikaaP8
import Derived.Test.YtnnblklbjbkikaaP9
import Derived.Test.YtnnblklbjbkikaaP10
import Derived.Test.YtnnblklbjbkikaaP12
import Derived.Test.YtnnblklbjbkikaaP13
import Derived.Test.YtnnblklbjbkikaaP14
import Derived.Test.YtnnblklbjbkikaaP15
