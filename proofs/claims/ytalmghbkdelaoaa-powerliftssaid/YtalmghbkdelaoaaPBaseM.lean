/-
  All texts together.
-/
import Derived.Test.YtalmghbkdelaoaaP12
set_option maxRecDepth 100000
set_option maxHeartbeats 64000000

