/-
  What the listed variables hold, as the walks want it; and a world that meets the condition.
-/
import Derived.Test.YtegcgbjjpgjnmaaGreatDoorG21
import Derived.Test.YtegcgbjjpgjnmaaGreatDoorChecked
import Derived.Test.YtegcgbjjpgjnmaaGreatDoorG31
import Derived.Test.YtegcgbjjpgjnmaaGreatDoorTie
import Derived.Test.YtegcgbjjpgjnmaaGreatDoorCards
import Derived.ProofKit
import Derived.LaidMore
import Derived.OpenShut
import Derived.Stop.Joined
import Derived.Lib.LaidTab
import Derived.Lib.LaidU8T
import Derived.Lay
namespace Go.Proofs.YtegcgbjjpgjnmaaGreatDoor
open Go Go.RowKit
theorem ownK : ownKnob Tryz.prog.godebug = none := by kernel_rfl
def laid5 : List (String × DataW Unit) := [("math/bits.deBruijn32tab", Rows.laid_math_bits_deBruijn32tab), ("math/bits.deBruijn64tab", Rows.laid_math_bits_deBruijn64tab), ("internal/strconv.uint64pow10", Rows.laid_internal_strconv_uint64pow10), ("unicode/utf8.acceptRanges", Rows.laid_unicode_utf8_acceptRanges), ("unicode/utf8.first", Rows.laid_unicode_utf8_first)]
theorem gPow : Tryz.prog.globalNamed "internal/strconv.uint64pow10" = some 2 := by kernel_rfl
theorem tPow : (Tryz.prog.globals[2]?).map (·.type) = some 176 := by kernel_rfl
/-- A world that holds the listed variables meets the condition. -/
theorem laid_met (os : Os) (args : Array Value) : laidMetH Tryz.prog laid5 ((World.laidAll Tryz.prog os laid5).forCall (fun _ _ => 0) ⟨#[], args, []⟩).memory := by
  rw [MakeChecks.laidMetH_plain _ _ _ (by kernel_rfl)]
  exact laidMet_laidAll _ (by kernel_rfl) (by kernel_rfl)
theorem pow_data : (Rows.laid_internal_strconv_uint64pow10 : DataW Unit) = Lib.tabData .u64 Lib.pow10Tab := by kernel_rfl
theorem first_data : (Rows.laid_unicode_utf8_first : DataW Unit) = Lib.firstData := by kernel_rfl
theorem accept_data : (Rows.laid_unicode_utf8_acceptRanges : DataW Unit) = Lib.acceptData := by kernel_rfl
theorem laid5_plain {W : World} (h : laidMetH Tryz.prog laid5 W) : laidMet Tryz.prog laid5 W := by
  rw [MakeChecks.laidMetH_plain _ _ _ (by kernel_rfl)] at h
  exact h
/-- What the condition gives the walks: the table of powers of ten. -/
theorem tab_of_laid {W : World} (h : laidMetH Tryz.prog laid5 W) : Tab W.heap.size W := by
  refine Lib.tabBelow_of_tabIs ?_
  obtain ⟨g2, t2, cs2, f2, p2, hg2, ht2, hv2, hd2⟩ := Lib.laidMet.reads (laid5_plain h) (.tail _ (.tail _ (.head _)))
  obtain rfl := Option.some.inj (gPow.symm.trans hg2)
  obtain rfl := Option.some.inj (tPow.symm.trans ht2)
  rw [pow_data] at hd2
  unfold Lib.TabIs
  rw [hv2, ← Lib.cells_of_tab Tryz.underlying176 Tryz.underlying150 (by kernel_rfl) (by kernel_rfl) hd2]
theorem utab_of_laid {W : World} (h : laidMetH Tryz.prog laid5 W) : UTab W.heap.size W := by
  have hL := laid5_plain h
  have h1 := Lib.laidMet.reads hL (.tail _ (.tail _ (.tail _ (.tail _ (.head _)))))
  have h2 := Lib.laidMet.reads hL (.tail _ (.tail _ (.tail _ (.head _))))
  rw [first_data] at h1
  rw [accept_data] at h2
  have ht : Lib.Utf8Tabs (Tryz.laysValid_ren.g 3) (Tryz.laysValid_ren.g 4) W := utf8Tabs_of_readsT (U8Types.of196 Tryz.laysValid) ⟨by kernel_rfl, by kernel_rfl, by kernel_rfl, by kernel_rfl, by kernel_rfl, by kernel_rfl, by kernel_rfl⟩ h1 h2
  intro W' hb
  refine ⟨fun c hc => (hb.cell (p := ⟨_, c, none⟩) (cell_lt (ht.1 c hc))).trans (ht.1 c hc), fun i hi => ⟨(hb.cell (p := ⟨_, 2 * i, none⟩) (cell_lt (ht.2 i hi).1)).trans (ht.2 i hi).1, (hb.cell (p := ⟨_, 2 * i + 1, none⟩) (cell_lt (ht.2 i hi).2)).trans (ht.2 i hi).2⟩⟩
theorem tabs_of_laid {W : World} (h : laidMetH Tryz.prog laid5 W) : Tabs W := ⟨tab_of_laid h, utab_of_laid h⟩
end Go.Proofs.YtegcgbjjpgjnmaaGreatDoor
