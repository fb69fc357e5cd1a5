/- The walk of the document's Become, where it is done. -/
import Derived.Test.YtolfddiofcllcaaWalkm
namespace Go.Proofs.Ytolfddiofcllcaa
open Go.RowKit

/-- The ways of what is done: the kind, and whether it is over by it. -/
theorem ok_ways {a : Au} {k n : Int} (h : May a k n) :
    (k = 1 ∧ a.shut = false ∧ Hid (step a k n = ⟨a.card, a.shop, a.sum + n, a.cap, a.ref, a.dis, a.till, false⟩)) ∨
    (k = 2 ∧ a.shut = false ∧ (a.sum == a.cap + n) = true ∧ Hid (step a k n = ⟨a.card, a.shop, a.sum, a.cap + n, a.ref, a.dis, a.till, true⟩)) ∨
    (k = 2 ∧ a.shut = false ∧ (a.sum == a.cap + n) = false ∧ Hid (step a k n = ⟨a.card, a.shop, a.sum, a.cap + n, a.ref, a.dis, a.till, false⟩)) ∨
    (k = 3 ∧ a.shut = false ∧ Hid (step a k n = ⟨a.card, a.shop, a.sum, a.cap + n, a.ref, a.dis, a.till, true⟩)) ∨
    (k = 4 ∧ a.shut = false ∧ (a.sum - n == a.cap) = true ∧ Hid (step a k n = ⟨a.card, a.shop, a.sum - n, a.cap, a.ref, a.dis, a.till, true⟩)) ∨
    (k = 4 ∧ a.shut = false ∧ (a.sum - n == a.cap) = false ∧ Hid (step a k n = ⟨a.card, a.shop, a.sum - n, a.cap, a.ref, a.dis, a.till, false⟩)) ∨
    (k = 5 ∧ Hid (step a k n = ⟨a.card, a.shop, a.sum, a.cap, a.ref + n, a.dis, a.till, a.shut⟩)) ∨
    (k = 6 ∧ Hid (step a k n = ⟨a.card, a.shop, a.sum, a.cap, a.ref, a.dis + n, a.till, a.shut⟩)) ∨
    (k = 7 ∧ Hid (step a k n = ⟨a.card, a.shop, a.sum, a.cap, a.ref + n, a.dis - n, a.till, a.shut⟩)) ∨
    (k = 8 ∧ Hid (step a k n = ⟨a.card, a.shop, a.sum, a.cap, a.ref, a.dis - n, a.till, a.shut⟩)) := by
  have hs := h.2.2.2.2.2.2.1
  rcases kinds h.2.2.1 h.2.2.2.1 with rfl | rfl | rfl | rfl | rfl | rfl | rfl | rfl
  · have h0 := hs (by decide)
    refine Or.inl ⟨rfl, h0, ?_⟩
    show step a 1 n = _
    simp [step, h0]
  · have h0 := hs (by decide)
    by_cases e : a.sum = a.cap + n
    · refine Or.inr (Or.inl ⟨rfl, h0, by simpa using e, ?_⟩)
      show step a 2 n = _
      simp [step, e]
    · refine Or.inr (Or.inr (Or.inl ⟨rfl, h0, by simpa using e, ?_⟩))
      show step a 2 n = _
      simp [step]; omega
  · have h0 := hs (by decide)
    refine Or.inr (Or.inr (Or.inr (Or.inl ⟨rfl, h0, ?_⟩)))
    show step a 3 n = _
    simp [step]
  · have h0 := hs (by decide)
    by_cases e : a.sum - n = a.cap
    · refine Or.inr (Or.inr (Or.inr (Or.inr (Or.inl ⟨rfl, h0, by simpa using e, ?_⟩))))
      show step a 4 n = _
      simp [step, e]
    · refine Or.inr (Or.inr (Or.inr (Or.inr (Or.inr (Or.inl ⟨rfl, h0, by simpa using e, ?_⟩)))))
      show step a 4 n = _
      simp [step]; omega
  · exact Or.inr (Or.inr (Or.inr (Or.inr (Or.inr (Or.inr (Or.inl ⟨rfl, rfl⟩))))))
  · exact Or.inr (Or.inr (Or.inr (Or.inr (Or.inr (Or.inr (Or.inr (Or.inl ⟨rfl, rfl⟩)))))))
  · exact Or.inr (Or.inr (Or.inr (Or.inr (Or.inr (Or.inr (Or.inr (Or.inr (Or.inl ⟨rfl, rfl⟩))))))))
  · exact Or.inr (Or.inr (Or.inr (Or.inr (Or.inr (Or.inr (Or.inr (Or.inr (Or.inr ⟨rfl, rfl⟩))))))))

set_option maxHeartbeats 8000000 in
set_option maxRecDepth 10000 in
theorem become_ok (a : Au) (k n : Int) (w : World) (h : mvErr a k n = 0) :
    Calls Try.prog 30 #[av a, .int .i64 k, .int .i64 n] w fun e w' => e = .returned (.tuple #[av (mv a k n).1, .int .i64 (mv a k n).2]) ∧ Below w.heap.size w w' := by
  have hmm := @run_makeMap Try.prog
  have H := hid (mv_yes h)
  have hm := mvErr_zero.1 h
  have hw := ok_ways hm
  have HW : Hid (wrongA a = 0) := wrongA_ok.2 ⟨hm.1, hm.2.1⟩
  have HT := hid (tab_room a k hm.2.2.1 hm.2.2.2.1)
  obtain ⟨⟨⟨q1, q2⟩, ⟨q3, q4⟩, ⟨q5, q6⟩, ⟨q7, q8⟩, -⟩, ⟨f1, f2⟩, k1, k2, n1, n2, -, hr⟩ := hm
  clear h
  obtain ⟨c, s, m, cp, rf, d, t, sh⟩ := a
  simp only at q1 q2 q3 q4 q5 q6 q7 q8 f1 f2 hw
  rcases hw with ⟨rfl, rfl, H2⟩ | ⟨rfl, rfl, h1, H2⟩ | ⟨rfl, rfl, h1, H2⟩ | ⟨rfl, rfl, H2⟩ | ⟨rfl, rfl, h1, H2⟩ | ⟨rfl, rfl, h1, H2⟩ | ⟨rfl, H2⟩ | ⟨rfl, H2⟩ | ⟨rfl, H2⟩ | ⟨rfl, H2⟩
  all_goals
    simp [room] at hr
    simp only [av]
    go_enter Try.func30, Try.ntmps30
    go_wp2_with fail
    refine (refWrong_any ⟨c, s, m, cp, rf, d, t, _⟩ _).mono ?_
    rintro e w1 ⟨rfl, hb⟩
    rw [HW.out]
    obtain ⟨P, Q, hb', hz⟩ := after2 (a := ⟨c, s, m, cp, rf, d, t, _⟩) hb
    have hy : w.heap.size < w1.heap.size := by omega
    have hy' : w.heap.size + 1 < w1.heap.size := by omega
    obtain ⟨wa, wb, wc, wd, we, wf, wg, wh, ⟨ea, ba⟩, ⟨eb, bb⟩, ⟨ec, bc⟩, ⟨ed, bd⟩, ⟨ee, be⟩, ⟨ef, bf⟩, ⟨eg, bg⟩, ⟨eh, bh⟩, el⟩ := map8 w1 (1000000 - m) (m - cp) (m - cp) (m - cp) (cp - rf - d) (cp - rf - d) d d _ k1 k2 (by omega) (by omega) (by omega) (by omega) (by omega) (by omega) (by omega) (by omega)
    rw [HT.out] at el
    simp [room] at el
    clear hb HT
    have P' := P
    obtain ⟨⟨-, -, A2, A3, A4, A5, -, A7⟩, -⟩ := P'
    obtain ⟨⟨-, -, B2, B3, -, -, -, -⟩, -⟩ := P.below hy ba
    obtain ⟨⟨-, -, C2, C3, -, -, -, -⟩, -⟩ := P.below hy bb
    obtain ⟨⟨-, -, D2, D3, -, -, -, -⟩, -⟩ := P.below hy bc
    obtain ⟨⟨-, -, -, E3, E4, E5, -, -⟩, -⟩ := P.below hy bd
    obtain ⟨⟨-, -, -, F3, F4, F5, -, -⟩, -⟩ := P.below hy be
    obtain ⟨⟨-, -, -, -, -, G5, -, -⟩, -⟩ := P.below hy bf
    obtain ⟨⟨-, -, -, -, -, I5, -, -⟩, -⟩ := P.below hy bg
    obtain ⟨⟨R0, R1, R2, R3, R4, R5, R6, R7⟩, F⟩ := P.below hy bh
    obtain ⟨⟨S0, S1, S2, S3, S4, S5, S6, S7⟩, G⟩ := Q.below hy' bh
    simp only [none0] at A2 A3 A4 A5 A7 B2 B3 C2 C3 D2 D3 E3 E4 E5 F3 F4 F5 G5 I5 R0 R1 R2 R3 R4 R5 R6 R7 S0 S1 S2 S3 S4 S5 S6 S7
    have hb1h := hb'.trans (bh.mono (by omega))
    clear ba bb bc bd be bf bg bh P Q HW
    go_wp2
    refine bodyPost_ret (by simp [results, Try.results30, go_sem, S0, S1, S2, S3, S4, S5, S6, S7]; try rfl) rfl ⟨?_, ?_⟩
    · rw [H.out, H2.out]
    · repeat refine Below.setCell ?_ (by simp) _
      exact hb1h
end Go.Proofs.Ytolfddiofcllcaa
