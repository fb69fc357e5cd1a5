/- The walk of DayTurns. -/
import Derived.Test.YtkkgojdefjoajabDyp
import Derived.Test.YtkkgojdefjoajabDyr
namespace Go.Proofs.Ytkkgojdefjoajab.Dy
open Go.RowKit Go.Proofs.Ytkkgojdefjoajab.Gn

theorem string_of {w : World} {a : Option Addr} {cap : Nat} {L : List Int} (h : Lies kB w a cap L) : (convert 75 9 (.slice a L.length cap)).run Try.prog w = .ok (.string (strOf L)) w :=
  run_string_of Try.underlying75 Try.underlying5 Try.underlying9 h

theorem parse_nil {b : List Int} (h : (parseR b).2 ≠ 0) : (parseR b).1 = [] := by
  by_cases hf : noForm b
  · rw [parse_form hf]
  by_cases hw : (wrongL (recs b (b.getD 0 0).toNat)).1 = 0
  case neg => rw [parse_wrong hf hw]
  case pos =>
    by_cases ht : total (recs b (b.getD 0 0).toNat) = last4 b
    case neg => rw [parse_fit hf hw (Or.inl ht)]
    case pos =>
      cases hs : sameL (recs b (b.getD 0 0).toNat) (sortR (recs b (b.getD 0 0).toNat)) with
      | false => rw [parse_fit hf hw (Or.inr hs)]
      | true => rw [parse_ok hf hw ht hs] at h; exact absurd rfl h

set_option maxHeartbeats 3200000 in
theorem dayTurns_at (a : Option Addr) (c : Nat) (L : List Rc) (a2 : Option Addr) (c2 : Nat) (b : List Int) (w : World) (hl : Lies kR w a c L) (hb : Lies kB w a2 c2 b ∧ Byt b ∧ b.length ≤ c2) :
    Calls Try.prog 13 #[.slice a L.length c, .slice a2 b.length c2] w fun e w' => e = .returned (.bool true) ∧ Below w.heap.size w w' := by
  have hAl : Calls Try.prog 51 #[] w fun e w' => e = .returned (.bool true) ∧ Below w.heap.size w w' := alive_any w
  have hL : At kR w (.slice a L.length c) L := ⟨a, c, rfl, hl⟩
  have hBb : AtC kB w (.slice a2 b.length c2) b := ⟨a2, c2, rfl, hb.1, hb.2.2⟩
  have hByt := hb.2.1
  have hBy : ∀ X : World, Below w.heap.size w X → Calls Try.prog 40 #[.slice a L.length c] X (AnswersB X (bytesR L)) := fun X hX => bytes_any L _ X (hL.below hX)
  have hPb : ∀ X : World, Below w.heap.size w X → Calls Try.prog 49 #[.slice a2 b.length c2] X (AnswersP X (parseR b)) := fun X hX => parse_any b _ X (hBb.below hX) hByt
  have hlb := hb.1
  go_enter Try.func13, Try.ntmps13
  go_upto_region 3 with (go_at_call 51; refine hAl.mono ?_; rintro e w1 ⟨rfl, hb1⟩)
  by_cases hw : (wrongL L).1 = 0
  case neg =>
    have hby := bytes_bad hw
    have hw' : ((wrongL L).1 == 0) = false := by simpa using hw
    have hBX := hBy w1 hb1
    unfold AnswersB fv at hBX
    rw [hby] at hBX
    clear hw hby
    generalize (wrongL L).1 = x1 at *
    generalize (wrongL L).2 = x2 at *
    go_upto_region 8 with (go_at_call 40; refine hBX.mono ?_; rintro e w2 ⟨v2, rfl, hr2, hb2⟩)
    have hbX : Below w.heap.size w (w2.alloc (.cells #[.int .i64 x1, .int .i64 x2] 44)) := bel_alloc (hb1.trans (hb2.mono hb1.size)) _
    generalize w2.alloc (.cells #[.int .i64 x1, .int .i64 x2] 44) = X at *
    by_cases he : (parseR b).2 = 0
    case neg =>
      have hnil := parse_nil he
      have he' : ((parseR b).2 != 0) = true := by simpa using he
      have hPX := hPb X hbX
      unfold AnswersP at hPX
      rw [hnil] at hPX
      clear he hnil
      generalize (parseR b).2 = e2 at *
      go_upto_region 10 with (go_at_call 49; refine hPX.mono ?_; rintro e w6 ⟨v6, rfl, hr6, hb6⟩)
      obtain ⟨a6, c6, rfl, -, -⟩ := row_at hr6
      go_wp2_with fail
      go_ret
      exact ⟨rfl, hbX.trans (hb6.mono hbX.size)⟩
    case pos =>
      obtain ⟨hRp, hfp⟩ := back hByt he
      have hPX := hPb X hbX
      unfold AnswersP at hPX
      rw [he] at hPX
      have hbp := bytes_ok (wrong_ok.2 hRp)
      rw [hfp] at hbp
      clear he hfp
      generalize (parseR b).1 = p at *
      have hBp : ∀ (Y : World) (u : Value), At kR Y u p → Calls Try.prog 40 #[u] Y fun e w' => ∃ v', e = .returned (.tuple #[v', .agg #[.int .i64 0, .int .i64 0]]) ∧ Row kB 5 w' Y.heap.size v' b ∧ Below Y.heap.size Y w' := fun Y u hu => by
        have := bytes_any p u Y hu
        rw [hbp] at this
        exact this
      have HRp := hid hRp
      clear hbp hRp
      go_upto_region 11 with (go_at_call 49; refine hPX.mono ?_; rintro e w6 ⟨v6, rfl, hr6, hb6⟩)
      have hb7 : Below w.heap.size w w6 := hbX.trans (hb6.mono hbX.size)
      have hat6 := Row.at hr6
      go_upto_region 12 with (go_at_call 40; refine (hBp _ _ hat6).mono ?_; rintro e w8 ⟨v8, rfl, hr8, hb8⟩)
      have hb9 : Below w.heap.size w (w8.alloc (.cells #[.int .i64 0, .int .i64 0] 44)) := bel_alloc (hb7.trans (hb8.mono hb7.size)) _
      have hr9 := hr8.alloc (.cells #[.int .i64 0, .int .i64 0] 44)
      have F0 : (w8.alloc (.cells #[.int .i64 0, .int .i64 0] 44)).cell? ⟨w8.heap.size, 0, none⟩ = some (.int .i64 0) := by simp
      generalize w8.alloc (.cells #[.int .i64 0, .int .i64 0] 44) = W9 at *
      obtain ⟨a9, c9, rfl, -, hl9⟩ := row_at hr9
      have s1 := string_of hl9
      have s2 := string_of (hlb.below hb9)
      generalize strOf b = sb at *
      go_wp2_with fail
      go_ret
      exact ⟨by simp, hb9⟩
  case pos =>
    have hR := wrong_ok.1 hw
    have hby := bytes_ok hw
    have hBX := hBy w1 hb1
    unfold AnswersB fv at hBX
    rw [hby] at hBX
    have hPx : ∀ (Y : World) (u : Value), AtC kB Y u (fileB L) → Calls Try.prog 49 #[u] Y fun e w' => ∃ v', e = .returned (.tuple #[v', .int .i64 0]) ∧ Row kR 87 w' Y.heap.size v' (sortR L) ∧ Below Y.heap.size Y w' := fun Y u hu => by
      have := parse_any (fileB L) u Y hu (file_byt hR)
      rw [turns hR] at this
      exact this
    have hfew := hR.few
    have hSo : ∀ Y : World, Below w.heap.size w Y → Calls Try.prog 45 #[.slice a L.length c] Y (AnswersR Y (sortR L)) := fun Y hY => sorted_any L _ Y (hL.below hY) (by omega)
    clear hw hby hR
    dsimp only at hBX
    generalize fileB L = fb at *
    generalize hS : sortR L = S at *
    clear hS
    go_upto_region 5 with (go_at_call 40; refine hBX.mono ?_; rintro e w2 ⟨v2, rfl, hr2, hb2⟩)
    have hb3 : Below w.heap.size w (w2.alloc (.cells #[.int .i64 0, .int .i64 0] 44)) := bel_alloc (hb1.trans (hb2.mono hb1.size)) _
    have hr3 := hr2.alloc (.cells #[.int .i64 0, .int .i64 0] 44)
    generalize w2.alloc (.cells #[.int .i64 0, .int .i64 0] 44) = W3 at *
    have hat3 := Row.atC hr3
    go_upto_region 6 with (go_at_call 49; refine (hPx _ _ hat3).mono ?_; rintro e w4 ⟨v4, rfl, hr4, hb4⟩)
    have hb5 : Below w.heap.size w w4 := hb3.trans (hb4.mono hb3.size)
    have hat4 := Row.at hr4
    go_upto_region 8 with (first
      | (go_at_call 45; refine (hSo _ hb5).mono ?_; rintro e w5 ⟨a5, c5, rfl, hl5, -, -, hb6⟩; have hb7 : Below w.heap.size w w5 := hb5.trans (hb6.mono hb5.size); have hat5 := hat4.below hb6)
      | (go_at_call 44; refine (same_any S _ _ _ hat5 ⟨a5, c5, rfl, hl5⟩).mono ?_; rintro e w6 ⟨rfl, hb8⟩; have hbX : Below w.heap.size w w6 := hb7.trans (hb8.mono hb7.size)))
    generalize w6 = X at *
    by_cases he : (parseR b).2 = 0
    case neg =>
      have hnil := parse_nil he
      have he' : ((parseR b).2 != 0) = true := by simpa using he
      have hPX := hPb X hbX
      unfold AnswersP at hPX
      rw [hnil] at hPX
      clear he hnil
      generalize (parseR b).2 = e2 at *
      go_upto_region 10 with (go_at_call 49; refine hPX.mono ?_; rintro e w6 ⟨v6, rfl, hr6, hb6⟩)
      obtain ⟨a6, c6, rfl, -, -⟩ := row_at hr6
      go_wp2_with fail
      go_ret
      exact ⟨rfl, hbX.trans (hb6.mono hbX.size)⟩
    case pos =>
      obtain ⟨hRp, hfp⟩ := back hByt he
      have hPX := hPb X hbX
      unfold AnswersP at hPX
      rw [he] at hPX
      have hbp := bytes_ok (wrong_ok.2 hRp)
      rw [hfp] at hbp
      clear he hfp
      generalize (parseR b).1 = p at *
      have hBp : ∀ (Y : World) (u : Value), At kR Y u p → Calls Try.prog 40 #[u] Y fun e w' => ∃ v', e = .returned (.tuple #[v', .agg #[.int .i64 0, .int .i64 0]]) ∧ Row kB 5 w' Y.heap.size v' b ∧ Below Y.heap.size Y w' := fun Y u hu => by
        have := bytes_any p u Y hu
        rw [hbp] at this
        exact this
      have HRp := hid hRp
      clear hbp hRp
      go_upto_region 11 with (go_at_call 49; refine hPX.mono ?_; rintro e w6 ⟨v6, rfl, hr6, hb6⟩)
      have hb7 : Below w.heap.size w w6 := hbX.trans (hb6.mono hbX.size)
      have hat6 := Row.at hr6
      go_upto_region 12 with (go_at_call 40; refine (hBp _ _ hat6).mono ?_; rintro e w8 ⟨v8, rfl, hr8, hb8⟩)
      have hb9 : Below w.heap.size w (w8.alloc (.cells #[.int .i64 0, .int .i64 0] 44)) := bel_alloc (hb7.trans (hb8.mono hb7.size)) _
      have hr9 := hr8.alloc (.cells #[.int .i64 0, .int .i64 0] 44)
      have F0 : (w8.alloc (.cells #[.int .i64 0, .int .i64 0] 44)).cell? ⟨w8.heap.size, 0, none⟩ = some (.int .i64 0) := by simp
      generalize w8.alloc (.cells #[.int .i64 0, .int .i64 0] 44) = W9 at *
      obtain ⟨a9, c9, rfl, -, hl9⟩ := row_at hr9
      have s1 := string_of hl9
      have s2 := string_of (hlb.below hb9)
      generalize strOf b = sb at *
      go_wp2_with fail
      go_ret
      exact ⟨by simp, hb9⟩
end Go.Proofs.Ytkkgojdefjoajab.Dy
