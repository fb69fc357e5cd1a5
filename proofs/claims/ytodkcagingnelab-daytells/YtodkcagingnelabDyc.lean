/- Sorting in place: the walk of rotate. -/
import Derived.Test.YtodkcagingnelabDyb
namespace Go.Proofs.Ytodkcagingnelab.Dy
open Go.RowKit Go.Proofs.Ytodkcagingnelab.Gn

theorem swapRange_at (P U V W Q L L' : List Rc) (n : Nat) (hu : U.length = n) (hw : W.length = n) (hL : P ++ (U ++ (V ++ (W ++ Q))) = L) (hL' : P ++ (W ++ (V ++ (U ++ Q))) = L') (g N cap : Nat) (a b c : Int) (ha : a = P.length) (hb : b = P.length + n + V.length) (hc : c = n) (w : World)
    (hN : N = L.length) (hN2 : N ≤ 1152921504606846976) (hB : Blo w g L) :
    Calls Try.prog 94 #[.slice (some ⟨g, 0, none⟩) N cap, .int .i64 a, .int .i64 b, .int .i64 c, .func (.func 73) #[] #[]] w fun e w' => e = .returned (.tuple #[]) ∧ Sorts w g L' w' := by
  subst hL hL'
  have := swapRange_any P U V W Q n hu hw g N cap P.length (P.length + n + V.length) rfl rfl w hN hN2 hB
  subst ha hc hb
  simpa [fo] using this
theorem insertion_at (P X Q : List Rc) (g N cap : Nat) (a b : Int) (ha : a = P.length) (hb : b = P.length + X.length) (w : World)
    (hN : N = (P ++ (X ++ Q)).length) (hN2 : N ≤ 1152921504606846976) (hB : Blo w g (P ++ (X ++ Q))) :
    Calls Try.prog 89 #[.slice (some ⟨g, 0, none⟩) N cap, .int .i64 a, .int .i64 b, .func (.func 73) #[] #[]] w fun e w' => e = .returned (.tuple #[]) ∧ Sorts w g (P ++ (sortR X ++ Q)) w' := by
  have := insertion_any P X Q g N cap P.length (P.length + X.length) rfl rfl w hN hN2 hB
  subst ha hb
  simpa [fo] using this

set_option maxHeartbeats 1600000 in
theorem rotate_any (P U V Q L L' : List Rc) (hU : 0 < U.length) (hV : 0 < V.length) (hL : P ++ (U ++ (V ++ Q)) = L) (hL' : P ++ (V ++ (U ++ Q)) = L') (g N cap a m b : Nat) (ha : a = P.length) (hm : m = P.length + U.length) (hb : b = P.length + U.length + V.length) (w : World)
    (hN : N = L.length) (hN2 : N ≤ 1152921504606846976) (hB : Blo w g L) :
    Calls Try.prog 93 #[.slice (some ⟨g, 0, none⟩) N cap, .int .i64 a, .int .i64 m, .int .i64 b, .func (.func 73) #[] #[]] w fun e w' => e = .returned (.tuple #[]) ∧ Sorts w g L' w' := by
  have hNn : P.length + U.length + V.length + Q.length = N := by rw [hN, ← hL]; simp; omega
  obtain ⟨u0, hu0⟩ : ∃ u0 : Nat, U.length = u0 := ⟨_, rfl⟩
  obtain ⟨v0, hv0⟩ : ∃ v0 : Nat, V.length = v0 := ⟨_, rfl⟩
  have hm1 : a ≤ m := by omega
  have hm2 : m ≤ b := by omega
  have hm3 : b ≤ N := by omega
  have e1 : (m : Int) - a = u0 := by omega
  have e2 : (b : Int) - m = v0 := by omega
  have e1w : IntKind.i64.wrap ((m : Int) - a) = u0 := (wrap64 (by omega) (by omega)).trans e1
  have e2w : IntKind.i64.wrap ((b : Int) - m) = v0 := (wrap64 (by omega) (by omega)).trans e2
  have hmP : P.length + u0 = m := by omega
  have Hstart : Hid (P ++ (V ++ (U ++ Q)) = L') := hL'
  have HL : Hid (P ++ (U ++ (V ++ Q)) = L) := hL
  have HN : Hid (N = L.length) := hN
  have hU1 : 0 < u0 := by omega
  have hV1 : 0 < v0 := by omega
  have hs : P.length + u0 + v0 + Q.length = N := by omega
  clear hL hL' hN ha hm hb hU hV hNn
  go_enter Try.func93, Try.ntmps93
  go_wp2
  go_loopw [10, 11] (fun i j wr => ∃ (u v p q : Nat) (P U V Q : List Rc), i = .int .i64 u ∧ j = .int .i64 v ∧ 0 < u ∧ 0 < v ∧ p + u = m ∧ p + u + v + q = N ∧ Hid (P.length = p) ∧ Hid (U.length = u) ∧ Hid (V.length = v) ∧ Hid (Q.length = q) ∧ Below g w wr ∧ Hid (P ++ (V ++ (U ++ Q)) = L') ∧ Hid (Blo wr g (P ++ (U ++ (V ++ Q))))) (fun i j _ => (intOf i).toNat + (intOf j).toNat)
  case atStart => exact ⟨u0, v0, P.length, Q.length, P, U, V, Q, rfl, rfl, hU1, hV1, hmP, hs, rfl, hu0, hv0, rfl, Below.refl _ _, Hstart, by rw [HL.out]; exact hB⟩
  case round =>
    clear hB HL Hstart hu0 hv0 hmP hs P U V Q e1 e2 e1w e2w hU1 hV1
    obtain ⟨u, v, p, q, P, U, V, Q, rfl, rfl, hu, hv, hmP, hs, hp, hu1, hv1, hq, hbel, hL', hblo⟩ := hrel
    have hlen : N = (P ++ (U ++ (V ++ Q))).length := by have := hp.out; have := hu1.out; have := hv1.out; have := hq.out; simp; omega
    have Hlen := hid hlen
    clear hlen
    by_cases h1 : u = v
    · subst h1
      have h1' : ((u : Int) != (u : Int)) = false := by simp
      have HL2 : P ++ (U ++ ([] ++ (V ++ Q))) = P ++ (U ++ (V ++ Q)) := by simp
      have HL3 : P ++ (V ++ ([] ++ (U ++ Q))) = L' := by rw [← hL'.out]; simp
      have c1 := hid HL2
      have c2 := hid HL3
      clear HL2 HL3
      go_wp2_with (go_at_call 94; refine (swapRange_at P U [] V Q _ _ u hu1.out hv1.out c1.out c2.out g N cap _ _ _ (by have := hp.out; omega) (by have := hp.out; simp; omega) rfl _ Hlen.out hN2 hblo.out).mono ?_; rintro e w1 ⟨rfl, hs1⟩)
      go_end0
      exact ⟨rfl, hbel.trans hs1.bel, hs1.blo⟩
    · have h1' : ((u : Int) != (v : Int)) = true := by simp; omega
      by_cases h2 : v < u
      · have h2' : (v : Int) < u := by omega
        obtain ⟨U1, U2, rfl, hU1⟩ := cut U (n := v) (by have := hu1.out; omega)
        have hU2 : U2.length = u - v := by have := hu1.out; simp at this; omega
        have c1 : Hid (P ++ (U1 ++ (U2 ++ (V ++ Q))) = P ++ ((U1 ++ U2) ++ (V ++ Q))) := hid (by simp)
        have e3 : IntKind.i64.wrap ((u : Int) - v) = ((u - v : Nat) : Int) := (wrap64 (by omega) (by omega)).trans (by omega)
        have e4 : IntKind.i64.wrap ((m : Int) - u) = p := (wrap64 (by omega) (by omega)).trans (by omega)
        have HU1 := hid hU1
        have HU2 := hid hU2
        clear hU1 hU2
        have c3 : Hid ((P ++ V) ++ (U1 ++ (U2 ++ Q)) = L') := hid (by rw [← hL'.out]; simp)
        go_wp2_with (go_at_call 94; refine (swapRange_at P U1 U2 V Q _ _ v HU1.out hv1.out c1.out rfl g N cap _ _ _ (by have := hp.out; omega) (by have := hp.out; have := HU2.out; omega) rfl _ Hlen.out hN2 hblo.out).mono ?_; rintro e w1 ⟨rfl, hs1⟩)
        go_roundw
        case rel =>
          refine ⟨u - v, v, p + v, q, P ++ V, U2, U1, Q, by go_num, rfl, by omega, hv, by omega, by omega, ?_, HU2, HU1, hq, hbel.trans hs1.bel, c3, ?_⟩
          · have h3 := hp.out; have h4 := hv1.out; exact hid (by simp; omega)
          · have := hs1.blo; exact hid (by simpa using this)
        case measure => simp [intOf]; omega
      · have h2' : ¬ ((v : Int) < u) := by omega
        obtain ⟨V1, V2, rfl, hV1⟩ := cut V (n := v - u) (by have := hv1.out; omega)
        have hV2 : V2.length = u := by have := hv1.out; simp at this; omega
        have c1 : Hid (P ++ (U ++ (V1 ++ (V2 ++ Q))) = P ++ (U ++ ((V1 ++ V2) ++ Q))) := hid (by simp)
        have e3 : IntKind.i64.wrap ((v : Int) - u) = ((v - u : Nat) : Int) := (wrap64 (by omega) (by omega)).trans (by omega)
        have e4 : IntKind.i64.wrap ((m : Int) - u) = p := (wrap64 (by omega) (by omega)).trans (by omega)
        have HV1 := hid hV1
        have HV2 := hid hV2
        clear hV1 hV2
        have c3 : Hid (P ++ (V1 ++ (V2 ++ (U ++ Q))) = L') := hid (by rw [← hL'.out]; simp)
        go_wp2_with (go_at_call 94; refine (swapRange_at P U V1 V2 Q _ _ u hu1.out HV2.out c1.out rfl g N cap _ _ _ (by have := hp.out; omega) (by have := hp.out; have := HV1.out; omega) rfl _ Hlen.out hN2 hblo.out).mono ?_; rintro e w1 ⟨rfl, hs1⟩)
        go_roundw
        case rel =>
          refine ⟨u, v - u, p, u + q, P, V2, V1, U ++ Q, rfl, by go_num, hu, by omega, hmP, by omega, hp, HV2, HV1, ?_, hbel.trans hs1.bel, c3, ?_⟩
          · have h3 := hu1.out; have h4 := hq.out; exact hid (by simp; omega)
          · have := hs1.blo; exact hid (by simpa using this)
        case measure => simp [intOf]; omega
end Go.Proofs.Ytodkcagingnelab.Dy
