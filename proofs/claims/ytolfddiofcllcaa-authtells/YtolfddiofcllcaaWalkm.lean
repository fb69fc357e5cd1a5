/- The walk of the document's Become, where it looks how much there may be. -/
import Derived.Test.YtolfddiofcllcaaWalkl
namespace Go.Proofs.Ytolfddiofcllcaa
open Go.RowKit

theorem tab_room (a : Au) (k : Int) (h1 : 1 ≤ k) (h2 : k ≤ 8) :
    tab (1000000 - a.sum) (a.sum - a.cap) (a.sum - a.cap) (a.sum - a.cap) (a.cap - a.ref - a.dis) (a.cap - a.ref - a.dis) a.dis a.dis k = room a k := by
  rcases kinds h1 h2 with rfl | rfl | rfl | rfl | rfl | rfl | rfl | rfl <;> rfl

set_option maxHeartbeats 4000000 in
set_option maxRecDepth 10000 in
theorem become_over (a : Au) (k n : Int) (w : World) (hw : wrongA a = 0) (k1 : 1 ≤ k) (k2 : k ≤ 8) (n1 : 1 ≤ n) (n2 : n ≤ 1000000) (hs : k ≤ 4 → a.shut = false) (hr : room a k < n) :
    Calls Try.prog 30 #[av a, .int .i64 k, .int .i64 n] w fun e w' => e = .returned (.tuple #[av (mv a k n).1, .int .i64 (mv a k n).2]) ∧ Below w.heap.size w w' := by
  have hmm := @run_makeMap Try.prog
  obtain ⟨⟨⟨q1, q2⟩, ⟨q3, q4⟩, ⟨q5, q6⟩, ⟨q7, q8⟩, -⟩, f1, f2⟩ := wrongA_ok.1 hw
  have H : Hid (mv a k n = (none0, if k = 1 then 4 else 10)) := by
    have e : mvErr a k n = if k = 1 then 4 else 10 := by
      unfold mvErr
      rw [if_neg (by simpa using hw), if_neg (by omega), if_neg (by omega), if_neg (fun h => by have := hs h.2; rw [h.1] at this; cases this), if_neg (by omega)]
    have := mv_no (a := a) (k := k) (n := n) (by rw [e]; split <;> decide)
    rw [e] at this
    exact this
  have HW := hid hw
  have HT := hid (tab_room a k k1 k2)
  clear hw
  obtain ⟨c, s, m, cp, rf, d, t, sh⟩ := a
  simp only at q1 q2 q3 q4 q5 q6 q7 q8 f1 f2 hs
  have hsh : ∃ q : Int, Hid ((if k = 1 then 4 else 10) = q) ∧ ((q = 4 ∧ (k == 1) = true ∧ k ≤ 4 ∧ sh = false) ∨ (q = 10 ∧ (k == 1) = false ∧ k ≤ 4 ∧ sh = false) ∨ (q = 10 ∧ (k == 1) = false ∧ 4 < k)) := by
    by_cases h : k ≤ 4
    · by_cases h1 : k = 1
      · exact ⟨4, if_pos h1, Or.inl ⟨rfl, by simpa using h1, h, hs h⟩⟩
      · exact ⟨10, if_neg h1, Or.inr (Or.inl ⟨rfl, by simpa using h1, h, hs h⟩)⟩
    · exact ⟨10, if_neg (by omega), Or.inr (Or.inr ⟨rfl, by simp; omega, by omega⟩)⟩
  clear hs
  obtain ⟨q, HQ, hsh⟩ := hsh
  rcases hsh with ⟨rfl, hk1, hk, rfl⟩ | ⟨rfl, hk1, hk, rfl⟩ | ⟨rfl, hk1, hk⟩
  all_goals
    simp only [av]
    go_enter Try.func30, Try.ntmps30
    go_wp2_with fail
    refine (refWrong_any ⟨c, s, m, cp, rf, d, t, _⟩ _).mono ?_
    rintro e w1 ⟨rfl, hb⟩
    rw [HW.out]
    obtain ⟨P, Q, hb', hz⟩ := after2 (a := ⟨c, s, m, cp, rf, d, t, _⟩) hb
    have hy : w.heap.size < w1.heap.size := by omega
    have hy' : w.heap.size + 1 < w1.heap.size := by omega
    obtain ⟨wa, wb, wc, wd, we, wf, wg, wh, ⟨ea, ba⟩, ⟨eb, bb⟩, ⟨ec, bc⟩, ⟨ed, bd⟩, ⟨ee, be⟩, ⟨ef, bf⟩, ⟨eg, bg⟩, ⟨eh, bh⟩, el⟩ := map8 w1 (1000000 - m) (m - cp) (m - cp) (m - cp) (cp - rf - d) (cp - rf - d) d d k k1 k2 (by omega) (by omega) (by omega) (by omega) (by omega) (by omega) (by omega) (by omega)
    rw [HT.out] at el
    clear hb HT
    have P' := P
    obtain ⟨⟨-, -, A2, A3, A4, A5, -, A7⟩, -⟩ := P'
    obtain ⟨⟨-, -, B2, B3, -, -, -, -⟩, -⟩ := P.below hy ba
    obtain ⟨⟨-, -, C2, C3, -, -, -, -⟩, -⟩ := P.below hy bb
    obtain ⟨⟨-, -, D2, D3, -, -, -, -⟩, -⟩ := P.below hy bc
    obtain ⟨⟨-, -, -, E3, E4, E5, -, -⟩, -⟩ := P.below hy bd
    obtain ⟨⟨-, -, -, F3, F4, F5, -, -⟩, -⟩ := P.below hy be
    obtain ⟨⟨-, -, -, -, -, G5, -, -⟩, -⟩ := P.below hy bf
    obtain ⟨⟨-, -, -, -, -, I5, -, -⟩, -⟩ := P.below hy bg
    obtain ⟨⟨S0, S1, S2, S3, S4, S5, S6, S7⟩, G⟩ := Q.below hy' bh
    simp only [none0] at A2 A3 A4 A5 A7 B2 B3 C2 C3 D2 D3 E3 E4 E5 F3 F4 F5 G5 I5 S0 S1 S2 S3 S4 S5 S6 S7
    have hb1h := hb'.trans (bh.mono (by omega))
    clear ba bb bc bd be bf bg bh P Q HW
    generalize room _ k = q at *
    go_wp2
    refine bodyPost_ret (by simp [results, Try.results30, go_sem, S0, S1, S2, S3, S4, S5, S6, S7]; try rfl) rfl ⟨?_, ?_⟩
    · rw [H.out, HQ.out]; rfl
    · repeat refine Below.setCell ?_ (by simp) _
      exact hb1h
end Go.Proofs.Ytolfddiofcllcaa
