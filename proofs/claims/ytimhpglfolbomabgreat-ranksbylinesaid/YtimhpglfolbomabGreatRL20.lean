/-
  
-/
import Derived.Test.YtimhpglfolbomabGreatRL19
set_option maxRecDepth 100000
set_option maxHeartbeats 16000000

