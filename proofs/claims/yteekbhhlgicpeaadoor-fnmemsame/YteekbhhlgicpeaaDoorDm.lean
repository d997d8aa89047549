/- Numbers as texts: what Tm6 has. -/
import Derived.Test.YteekbhhlgicpeaaDoorDl
import Derived.Test.YteekbhhlgicpeaaDoorDe
import Derived.Test.YteekbhhlgicpeaaDoorTm6
