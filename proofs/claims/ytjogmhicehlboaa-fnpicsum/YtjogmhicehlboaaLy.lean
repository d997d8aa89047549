/- Nothing. -/
import Derived.Test.YtjogmhicehlboaaChecked
