/- GlobHas and its kin, on texts; what holds of the drawn ones, asked one by one. -/
import Derived.Test.YtiggojpepgbcoaaDrawGlob
import Derived.Test.YtiggojpepgbcoaaRowCode
import Derived.Test.YtiggojpepgbcoaaExGlobOk
namespace Go.Proofs.Ytiggojpepgbcoaa
open Go.RowKit Go.Shelf

def hasS (g s : ByteArray) : Bool := hasB g.data.toList s.data.toList
def okS (g : ByteArray) : Bool := globOkB g.data.toList
def pathS (s : ByteArray) : Bool := pathB s.data.toList
theorem GlobHasS_any (g s : ByteArray) (hg : g.size ≤ 1000) (hs : s.size ≤ 1000) (w : World) : Calls Try.prog 10 #[.string g, .string s] w fun e w' => e = .returned (.bool (hasS g s)) ∧ Below w.heap.size w w' := GlobHas_any g s (by unfold maxLen; omega) (by unfold maxLen; omega) w
theorem specGlobHasS_any (g s : ByteArray) (hg : g.size ≤ 1000) (hs : s.size ≤ 1000) (w : World) : Calls Try.prog 11 #[.string g, .string s] w fun e w' => e = .returned (.bool (hasS g s)) ∧ Below w.heap.size w w' := specGlobHas_any g s (by omega) (by omega) w
theorem GlobOkS_any (g : ByteArray) (hg : g.size ≤ 1000) (w : World) : Calls Try.prog 12 #[.string g] w fun e w' => e = .returned (.bool (okS g)) ∧ Below w.heap.size w w' := GlobOk_any g (by unfold maxLen; omega) w
theorem specGlobOkS_any (g : ByteArray) (hg : g.size ≤ 1000) (w : World) : Calls Try.prog 13 #[.string g] w fun e w' => e = .returned (.bool (okS g)) ∧ Below w.heap.size w w' := specGlobOk_any g (by omega) w
theorem PathOkS_any (s : ByteArray) (hs : s.size ≤ 1000) (w : World) : Calls Try.prog 16 #[.string s] w fun e w' => e = .returned (.bool (pathS s)) ∧ Below w.heap.size w w' := PathOk_any s (by unfold maxLen; omega) w
theorem specPathOkS_any (s : ByteArray) (hs : s.size ≤ 1000) (w : World) : Calls Try.prog 14 #[.string s] w fun e w' => e = .returned (.bool (pathS s)) ∧ Below w.heap.size w w' := specPathOk_any s (by omega) w
theorem app_data (a b : ByteArray) : (a ++ b).data.toList = a.data.toList ++ b.data.toList := by rw [ByteArray.data_append, Array.toList_append]
theorem app_size (a b : ByteArray) : (a ++ b).size = a.size + b.size := ByteArray.size_append
theorem path_size {s : ByteArray} (h : oneOf pathTexts s) : s.size ≤ 40 := by
  have : ∀ l ∈ pathTexts, l.length ≤ 40 := by decide +kernel
  rw [Lib.size_eq]; exact this _ h
theorem glob_size {s : ByteArray} (h : oneOf globTexts s) : s.size ≤ 50 := by
  have : ∀ l ∈ globTexts, l.length ≤ 50 := by decide +kernel
  rw [Lib.size_eq]; exact this _ h
theorem has_path {g s : ByteArray} (h : pathS s = false) : hasS g s = false := by
  have h' : pathB s.data.toList = false := h
  unfold hasS hasB; rw [h']; simp
theorem has_ok {g s : ByteArray} (h : hasS g s = true) : okS g = true := by
  unfold hasS hasB at h; rw [Bool.and_eq_true] at h; exact h.1
end Go.Proofs.Ytiggojpepgbcoaa
