/- Lines looked for, by the model. -/
import Derived.Test.YtedimkcnemhhpaaSpecTrim
namespace Go.Proofs.Ytedimkcnemhhpaa
open Go.RowKit Go.Shelf

/-- Whether lines stand at a place that is not ahead of another. -/
def fromB (ls old : List ByteArray) (low t : Int) : Bool := decide (low ≤ t) && standB ls t old
def findZ (ls old : List ByteArray) (at_ low : Int) : Option Int := findFrom (fromB ls old low) at_ 9 0
def foundZ (at_ : Int) : Option Int → Int
  | some far => at_ + far
  | none => -1

set_option maxRecDepth 100000 in
set_option maxHeartbeats 4000000 in
theorem l5Find_any (ls old : List ByteArray) (a b : Option Addr) (cap cap2 : Nat) (at_ low : Int) (w : World) (hx : ls.length ≤ 1000000) (hy : old.length ≤ 1000000) (hat : -100000 ≤ at_ ∧ at_ ≤ 100000) (hlow : -100000 ≤ low ∧ low ≤ 100000) (h : TxtsAt w a ls) (h2 : TxtsAt w b old) :
    Calls Try.prog 90 #[.slice a ls.length cap, .slice b old.length cap2, .int .i64 at_, .int .i64 low] w fun e w' => e = .returned (.int .i64 (foundZ at_ (findZ ls old at_ low))) ∧ Below w.heap.size w w' := by
  obtain ⟨hat1, hat2⟩ := hat
  obtain ⟨hlow1, hlow2⟩ := hlow
  have HA := hid h
  have HB := hid h2
  have HTM := hid (show findZ ls old at_ low = findFrom (fromB ls old low) at_ 9 0 from rfl)
  clear h h2
  go_enter Try.func90, Try.ntmps90
  go_wp2_with fail
  go_loopw [9] (fun i wr => ∃ k : Nat, k ≤ 9 ∧ i = .int .i64 (k : Int) ∧ Hid (findZ ls old at_ low = findFrom (fromB ls old low) at_ (9 - k) k) ∧ Hid (Below w.heap.size w wr)) (fun i _ => 9 - (intOf i).toNat)
  case atStart => exact ⟨0, by omega, rfl, HTM, hid (Below.refl _ _)⟩
  case round =>
    obtain ⟨k, hk, rfl, HK, HBr⟩ := hrel
    by_cases hlt : k < 9
    · have HST := hid (show findZ ls old at_ low = if fromB ls old low (at_ - (k : Int)) then some (-(k : Int)) else if fromB ls old low (at_ + (k : Int)) then some (k : Int) else findFrom (fromB ls old low) at_ (9 - (k + 1)) (k + 1) by
        rw [unhid HK, show 9 - k = (9 - (k + 1)) + 1 by omega]; rfl)
      have h9 : (k : Int) ≤ 8 := by omega
      go_upto_region 4 with fail
      go_cut [26] from 10 to 45 (fun s wx => s = .bool (fromB ls old low (at_ - (k : Int))) ∧ Hid (Below w.heap.size w wx))
      case first =>
        by_cases hl : low ≤ at_ - (k : Int)
        · have E := hid (show fromB ls old low (at_ - (k : Int)) = standB ls (at_ - (k : Int)) old by unfold fromB; rw [decide_eq_true hl]; rfl)
          go_wp2_with fail
          refine (l5Same_any ls old a b cap cap2 (at_ - (k : Int)) wr (by omega) (by omega) (by omega) ((unhid HA).below (unhid HBr)) ((unhid HB).below (unhid HBr))).mono ?_
          rintro r w5 ⟨rfl, hb⟩
          have HB5 := hid ((unhid HBr).trans (hb.mono (unhid HBr).size))
          clear hb
          go_wp2_with fail
          go_meet
          case rel => exact ⟨by rw [unhid E], HB5⟩
        · have E := hid (show fromB ls old low (at_ - (k : Int)) = false by unfold fromB; rw [decide_eq_false hl]; rfl)
          have hl2 : decide (low ≤ at_ - (k : Int)) = false := decide_eq_false hl
          go_wp2_with fail
          go_meet
          case rel => exact ⟨by rw [unhid E], HBr⟩
      case rest =>
        obtain ⟨rfl, HB5⟩ := hcut
        rename_i w5
        clear HBr
        cases hs1 : fromB ls old low (at_ - (k : Int))
        case true =>
          have HST2 := hid (show findZ ls old at_ low = some (-(k : Int)) by rw [unhid HST, hs1]; rfl)
          clear hs1 HST
          go_wp2_with fail
          go_ret
          exact ⟨by rw [unhid HST2]; show _ = Ending.returned (.int .i64 (at_ + -(k : Int))); congr 2, unhid HB5⟩
        case false =>
          have HST2 := hid (show findZ ls old at_ low = if fromB ls old low (at_ + (k : Int)) then some (k : Int) else findFrom (fromB ls old low) at_ (9 - (k + 1)) (k + 1) by rw [unhid HST, hs1]; rfl)
          clear hs1 HST
          go_upto_region 6 with fail
          go_cut [42] from 10 to 45 (fun s wx => s = .bool (fromB ls old low (at_ + (k : Int))) ∧ Hid (Below w.heap.size w wx))
          case first =>
            by_cases hl : low ≤ at_ + (k : Int)
            · have E := hid (show fromB ls old low (at_ + (k : Int)) = standB ls (at_ + (k : Int)) old by unfold fromB; rw [decide_eq_true hl]; rfl)
              go_wp2_with fail
              refine (l5Same_any ls old a b cap cap2 (at_ + (k : Int)) _ (by omega) (by omega) (by omega) ((unhid HA).below (unhid HB5)) ((unhid HB).below (unhid HB5))).mono ?_
              rintro r w5 ⟨rfl, hb⟩
              have HB5 := hid ((unhid HB5).trans (hb.mono (unhid HB5).size))
              clear hb
              go_wp2_with fail
              go_meet
              case rel => exact ⟨by rw [unhid E], HB5⟩
            · have E := hid (show fromB ls old low (at_ + (k : Int)) = false by unfold fromB; rw [decide_eq_false hl]; rfl)
              have hl2 : decide (low ≤ at_ + (k : Int)) = false := decide_eq_false hl
              go_wp2_with fail
              go_meet
              case rel => exact ⟨by rw [unhid E], HB5⟩
          case rest =>
            clear HB5
            obtain ⟨rfl, HB6⟩ := hcut
            cases hs2 : fromB ls old low (at_ + (k : Int))
            case true =>
              have HST3 := hid (show findZ ls old at_ low = some (k : Int) by rw [unhid HST2, hs2]; rfl)
              clear hs2 HST2
              go_wp2_with fail
              go_ret
              exact ⟨by rw [unhid HST3]; rfl, unhid HB6⟩
            case false =>
              have HST3 := hid (show findZ ls old at_ low = findFrom (fromB ls old low) at_ (9 - (k + 1)) (k + 1) by rw [unhid HST2, hs2]; rfl)
              clear hs2 HST2
              go_wp2_with fail
              go_roundw
              case rel => exact ⟨k + 1, by omega, by go_num, HST3, HB6⟩
              case measure => simp [intOf]; omega
    · have e : k = 9 := by omega
      subst e
      have E := hid (show findZ ls old at_ low = none by rw [unhid HK]; rfl)
      go_wp2_with fail
      go_ret
      exact ⟨by rw [unhid E]; rfl, unhid HBr⟩
end Go.Proofs.Ytedimkcnemhhpaa
