import Derived.Test.YtodkcagingnelacGreatDoorMFreeal
namespace Go.Proofs.YtodkcagingnelacGreatDoor.Dy
open Go.RowKit Go.Proofs.YtodkcagingnelacGreatDoor.Gn
theorem swapRange_at (P U V W Q L L' : List Rc) (n : Nat) (hu : U.length = n) (hw : W.length = n) (hL : P ++ (U ++ (V ++ (W ++ Q))) = L) (hL' : P ++ (W ++ (V ++ (U ++ Q))) = L') (g N cap : Nat) (a b c : Int) (ha : a = P.length) (hb : b = P.length + n + V.length) (hc : c = n) (w : World)
    (hN : N = L.length) (hN2 : N ≤ 1152921504606846976) (hB : Blo w g L) :
    Calls Tryz.prog 161 #[.slice (some ⟨g, 0, none⟩) N cap, .int .i64 a, .int .i64 b, .int .i64 c, .func (.func 67) #[] #[]] w fun e w' => e = .returned (.tuple #[]) ∧ Sorts w g L' w' := by
  subst hL hL'
  have := swapRange_any P U V W Q n hu hw g N cap P.length (P.length + n + V.length) rfl rfl w hN hN2 hB
  subst ha hc hb
  simpa [fo] using this
theorem insertion_at (P X Q : List Rc) (g N cap : Nat) (a b : Int) (ha : a = P.length) (hb : b = P.length + X.length) (w : World)
    (hN : N = (P ++ (X ++ Q)).length) (hN2 : N ≤ 1152921504606846976) (hB : Blo w g (P ++ (X ++ Q))) :
    Calls Tryz.prog 114 #[.slice (some ⟨g, 0, none⟩) N cap, .int .i64 a, .int .i64 b, .func (.func 67) #[] #[]] w fun e w' => e = .returned (.tuple #[]) ∧ Sorts w g (P ++ (sortR X ++ Q)) w' := by
  have := insertion_any P X Q g N cap P.length (P.length + X.length) rfl rfl w hN hN2 hB
  subst ha hb
  simpa [fo] using this
set_option maxHeartbeats 1600000 in
theorem rotate_any (P U V Q L L' : List Rc) (hU : 0 < U.length) (hV : 0 < V.length) (hL : P ++ (U ++ (V ++ Q)) = L) (hL' : P ++ (V ++ (U ++ Q)) = L') (g N cap a m b : Nat) (ha : a = P.length) (hm : m = P.length + U.length) (hb : b = P.length + U.length + V.length) (w : World)
    (hN : N = L.length) (hN2 : N ≤ 1152921504606846976) (hB : Blo w g L) :
    Calls Tryz.prog 143 #[.slice (some ⟨g, 0, none⟩) N cap, .int .i64 a, .int .i64 m, .int .i64 b, .func (.func 67) #[] #[]] w fun e w' => e = .returned (.tuple #[]) ∧ Sorts w g L' w' := by
  have hNn : P.length + U.length + V.length + Q.length = N := by rw [hN, ← hL]; simp; omega
  obtain ⟨u0, hu0⟩ : ∃ u0 : Nat, U.length = u0 := ⟨_, rfl⟩
  obtain ⟨v0, hv0⟩ : ∃ v0 : Nat, V.length = v0 := ⟨_, rfl⟩
  have hm1 : a ≤ m := by omega
  have hm2 : m ≤ b := by omega
  have hm3 : b ≤ N := by omega
  have e1 : (m : Int) - a = u0 := by omega
  have e2 : (b : Int) - m = v0 := by omega
  have e1w : IntKind.i64.wrap ((m : Int) - a) = u0 := (wrap64 (by omega) (by omega)).trans e1
  have e2w : IntKind.i64.wrap ((b : Int) - m) = v0 := (wrap64 (by omega) (by omega)).trans e2
  have hmP : P.length + u0 = m := by omega
  have Hstart : Hid (P ++ (V ++ (U ++ Q)) = L') := hL'
  have HL : Hid (P ++ (U ++ (V ++ Q)) = L) := hL
  have HN : Hid (N = L.length) := hN
  have hU1 : 0 < u0 := by omega
  have hV1 : 0 < v0 := by omega
  have hs : P.length + u0 + v0 + Q.length = N := by omega
  clear hL hL' hN ha hm hb hU hV hNn
  go_enter Tryz.func143, Tryz.ntmps143
  go_wp2
  go_loopw [10, 11] (fun i j wr => ∃ (u v p q : Nat) (P U V Q : List Rc), i = .int .i64 u ∧ j = .int .i64 v ∧ 0 < u ∧ 0 < v ∧ p + u = m ∧ p + u + v + q = N ∧ Hid (P.length = p) ∧ Hid (U.length = u) ∧ Hid (V.length = v) ∧ Hid (Q.length = q) ∧ Below g w wr ∧ Hid (P ++ (V ++ (U ++ Q)) = L') ∧ Hid (Blo wr g (P ++ (U ++ (V ++ Q))))) (fun i j _ => (intOf i).toNat + (intOf j).toNat)
  case atStart => exact ⟨u0, v0, P.length, Q.length, P, U, V, Q, rfl, rfl, hU1, hV1, hmP, hs, rfl, hu0, hv0, rfl, Below.refl _ _, Hstart, by rw [HL.out]; exact hB⟩
  case round =>
    clear hB HL Hstart hu0 hv0 hmP hs P U V Q e1 e2 e1w e2w hU1 hV1
    obtain ⟨u, v, p, q, P, U, V, Q, rfl, rfl, hu, hv, hmP, hs, hp, hu1, hv1, hq, hbel, hL', hblo⟩ := hrel
    have hlen : N = (P ++ (U ++ (V ++ Q))).length := by have := hp.out; have := hu1.out; have := hv1.out; have := hq.out; simp; omega
    have Hlen := hid hlen
    clear hlen
    by_cases h1 : u = v
    · subst h1
      have h1' : ((u : Int) != (u : Int)) = false := by simp
      have HL2 : P ++ (U ++ ([] ++ (V ++ Q))) = P ++ (U ++ (V ++ Q)) := by simp
      have HL3 : P ++ (V ++ ([] ++ (U ++ Q))) = L' := by rw [← hL'.out]; simp
      have c1 := hid HL2
      have c2 := hid HL3
      clear HL2 HL3
      go_wp2_with (go_at_call 161; refine (swapRange_at P U [] V Q _ _ u hu1.out hv1.out c1.out c2.out g N cap _ _ _ (by have := hp.out; omega) (by have := hp.out; simp; omega) rfl _ Hlen.out hN2 hblo.out).mono ?_; rintro e w1 ⟨rfl, hs1⟩)
      go_end0
      exact ⟨rfl, hbel.trans hs1.bel, hs1.blo⟩
    · have h1' : ((u : Int) != (v : Int)) = true := by simp; omega
      by_cases h2 : v < u
      · have h2' : (v : Int) < u := by omega
        obtain ⟨U1, U2, rfl, hU1⟩ := cut U (n := v) (by have := hu1.out; omega)
        have hU2 : U2.length = u - v := by have := hu1.out; simp at this; omega
        have c1 : Hid (P ++ (U1 ++ (U2 ++ (V ++ Q))) = P ++ ((U1 ++ U2) ++ (V ++ Q))) := hid (by simp)
        have e3 : IntKind.i64.wrap ((u : Int) - v) = ((u - v : Nat) : Int) := (wrap64 (by omega) (by omega)).trans (by omega)
        have e4 : IntKind.i64.wrap ((m : Int) - u) = p := (wrap64 (by omega) (by omega)).trans (by omega)
        have HU1 := hid hU1
        have HU2 := hid hU2
        clear hU1 hU2
        have c3 : Hid ((P ++ V) ++ (U1 ++ (U2 ++ Q)) = L') := hid (by rw [← hL'.out]; simp)
        go_wp2_with (go_at_call 161; refine (swapRange_at P U1 U2 V Q _ _ v HU1.out hv1.out c1.out rfl g N cap _ _ _ (by have := hp.out; omega) (by have := hp.out; have := HU2.out; omega) rfl _ Hlen.out hN2 hblo.out).mono ?_; rintro e w1 ⟨rfl, hs1⟩)
        go_roundw
        case rel =>
          refine ⟨u - v, v, p + v, q, P ++ V, U2, U1, Q, by go_num, rfl, by omega, hv, by omega, by omega, ?_, HU2, HU1, hq, hbel.trans hs1.bel, c3, ?_⟩
          · have h3 := hp.out; have h4 := hv1.out; exact hid (by simp; omega)
          · have := hs1.blo; exact hid (by simpa using this)
        case measure => simp [intOf]; omega
      · have h2' : ¬ ((v : Int) < u) := by omega
        obtain ⟨V1, V2, rfl, hV1⟩ := cut V (n := v - u) (by have := hv1.out; omega)
        have hV2 : V2.length = u := by have := hv1.out; simp at this; omega
        have c1 : Hid (P ++ (U ++ (V1 ++ (V2 ++ Q))) = P ++ (U ++ ((V1 ++ V2) ++ Q))) := hid (by simp)
        have e3 : IntKind.i64.wrap ((v : Int) - u) = ((v - u : Nat) : Int) := (wrap64 (by omega) (by omega)).trans (by omega)
        have e4 : IntKind.i64.wrap ((m : Int) - u) = p := (wrap64 (by omega) (by omega)).trans (by omega)
        have HV1 := hid hV1
        have HV2 := hid hV2
        clear hV1 hV2
        have c3 : Hid (P ++ (V1 ++ (V2 ++ (U ++ Q))) = L') := hid (by rw [← hL'.out]; simp)
        go_wp2_with (go_at_call 161; refine (swapRange_at P U V1 V2 Q _ _ u hu1.out HV2.out c1.out rfl g N cap _ _ _ (by have := hp.out; omega) (by have := hp.out; have := HV1.out; omega) rfl _ Hlen.out hN2 hblo.out).mono ?_; rintro e w1 ⟨rfl, hs1⟩)
        go_roundw
        case rel =>
          refine ⟨u, v - u, p, u + q, P, V2, V1, U ++ Q, rfl, by go_num, hu, by omega, hmP, by omega, hp, HV2, HV1, ?_, hbel.trans hs1.bel, c3, ?_⟩
          · have h3 := hu1.out; have h4 := hq.out; exact hid (by simp; omega)
          · have := hs1.blo; exact hid (by simpa using this)
        case measure => simp [intOf]; omega
end Go.Proofs.YtodkcagingnelacGreatDoor.Dy
namespace Go.Proofs.YtodkcagingnelacGreatDoor.Dy
open Go.RowKit Go.Proofs.YtodkcagingnelacGreatDoor.Gn
theorem Blo.eight {w : World} {g : Nat} {L : List Rc} (h : Blo w g L) {i j : Nat} {x y : Rc} (hi : i < L.length) (hj : j < L.length) (hx : L.getD i zR = x) (hy : L.getD j zR = y) :
    w.cell? ⟨g, i * 4, none⟩ = some (.int .i64 x.sh) ∧ w.cell? ⟨g, i * 4 + 1, none⟩ = some (.int .i64 x.au) ∧ w.cell? ⟨g, i * 4 + 2, none⟩ = some (.int .i64 x.k) ∧ w.cell? ⟨g, i * 4 + 3, none⟩ = some (.int .i64 x.m) ∧ w.cell? ⟨g, j * 4, none⟩ = some (.int .i64 y.sh) ∧ w.cell? ⟨g, j * 4 + 1, none⟩ = some (.int .i64 y.au) ∧ w.cell? ⟨g, j * 4 + 2, none⟩ = some (.int .i64 y.k) ∧ w.cell? ⟨g, j * 4 + 3, none⟩ = some (.int .i64 y.m) := by
  subst hx hy
  obtain ⟨c1, c2, c3, c4⟩ := h.cells hi
  obtain ⟨d1, d2, d3, d4⟩ := h.cells hj
  exact ⟨c1, c2, c3, c4, d1, d2, d3, d4⟩
theorem swp_mid' (P S : List Rc) (x : Rc) (Q : List Rc) {p i j : Nat} (h : p < S.length) (hi : i = P.length + p) (hj : j = P.length + p + 1) : swp (P ++ (mid S x p ++ Q)) i j = P ++ (mid S x (p + 1) ++ Q) := by
  rw [mid_split S x h, mid_split' S x h]
  have e : ∀ y z : Rc, P ++ ((S.take p ++ y :: z :: S.drop (p + 1)) ++ Q) = (P ++ S.take p) ++ y :: z :: (S.drop (p + 1) ++ Q) := fun y z => by simp
  rw [e, e]
  exact swp_two _ _ [] _ _ (by simp; omega) (by simp; omega)
theorem mid_next (P S : List Rc) (x : Rc) (Q : List Rc) {p i : Nat} (h : p < S.length) (hi : i = P.length + p + 1) : (P ++ (mid S x p ++ Q)).getD i zR = S.getD p zR := by
  have e : P ++ (mid S x p ++ Q) = (P ++ S.take p ++ [x]) ++ S.getD p zR :: (S.drop (p + 1) ++ Q) := by rw [mid_split' S x h]; simp
  rw [e]; exact getD_app' (by simp; omega) _ _
theorem getD_mid (P Y Q : List Rc) {i : Nat} (h1 : P.length ≤ i) (h2 : i < P.length + Y.length) : (P ++ (Y ++ Q)).getD i zR = Y.getD (i - P.length) zR := by
  simp only [List.getD]
  rw [List.getElem?_append_right h1, List.getElem?_append_left (by omega)]
set_option maxRecDepth 10000 in
set_option maxHeartbeats 3200000 in
theorem symLeft_any (P Y Q : List Rc) (x : Rc) (hY : Srt Y) (g N cap a m b : Nat) (ha : a = P.length) (hm : m = a + 1) (hb : b = m + Y.length) (w : World)
    (hN : N = (P ++ (mid Y x 0 ++ Q)).length) (hN2 : N ≤ 1152921504606846976) (hB : Blo w g (P ++ (mid Y x 0 ++ Q))) :
    Calls Tryz.prog 115 #[.slice (some ⟨g, 0, none⟩) N cap, .int .i64 a, .int .i64 m, .int .i64 b, .func (.func 67) #[] #[]] w fun e w' => e = .returned (.tuple #[]) ∧ Sorts w g (P ++ (sortR (x :: Y) ++ Q)) w' := by
  have hNn : P.length + 1 + Y.length + Q.length = N := by rw [hN, List.length_append, List.length_append, mid_length _ _ (Nat.zero_le _)]; omega
  have HN : Hid (N = (P ++ (mid Y x 0 ++ Q)).length) := hN
  have hL0 : P ++ (mid Y x 0 ++ Q) = (P ++ [x]) ++ (Y ++ Q) := by simp [mid]
  have hgx : (P ++ (mid Y x 0 ++ Q)).getD a zR = x := mid_at P Y x Q (Nat.zero_le _) (by omega)
  have hgy : ∀ h, m ≤ h → h < b → (P ++ (mid Y x 0 ++ Q)).getD h zR = Y.getD (h - m) zR := fun h h1 h2 => by
    rw [hL0, getD_mid (P ++ [x]) Y Q (by simp; omega) (by simp; omega)]
    congr 1
    simp; omega
  have Hgx := hid hgx
  have Hgy := hid hgy
  have Ha := hid ha
  have Hb := hid hb
  have e1 : IntKind.i64.wrap ((m : Int) - a) = 1 := (wrap64 (by omega) (by omega)).trans (by omega)
  have hmN : m ≤ b := by omega
  have hbN : b ≤ N := by omega
  have haN : a < m := by omega
  have hm' : Hid (m = a + 1) := hm
  clear hN hL0 hgx hgy ha hb hNn hm
  go_enter Tryz.func115, Tryz.ntmps115
  go_wp2
  go_loopw [10, 11] (fun i j wr => ∃ (p q : Nat), i = .int .i64 p ∧ j = .int .i64 q ∧ m ≤ p ∧ p ≤ q ∧ q ≤ b ∧ Below g w wr ∧ Hid (p = m ∨ gtB x (Y.getD (p - 1 - m) zR) = true) ∧ Hid (q = b ∨ gtB x (Y.getD (q - m) zR) = false) ∧ Hid (Blo wr g (P ++ (mid Y x 0 ++ Q)))) (fun i j _ => (intOf j).toNat - (intOf i).toNat)
  case atStart => exact ⟨m, b, rfl, rfl, Nat.le_refl _, hmN, Nat.le_refl _, Below.refl _ _, Or.inl rfl, Or.inl rfl, hB⟩
  case round =>
    clear hB
    obtain ⟨p, q, rfl, rfl, h1, h2, h3, hbel, hlo, hhi, hblo⟩ := hrel
    by_cases hlt : p < q
    · have hlt' : (p : Int) < q := by omega
      obtain ⟨h, hh, hh1, hh2⟩ : ∃ h : Nat, ((p : Int) + (q : Int)) / 2 = (h : Int) ∧ p ≤ h ∧ h < q := ⟨(p + q) / 2, by omega, by omega, by omega⟩
      have hgh := Hgy.out h (by omega) (by omega)
      obtain ⟨y, hy⟩ : ∃ y, Hid (Y.getD (h - m) zR = y) := ⟨_, rfl⟩
      rw [hy.out] at hgh
      have hhN : h < N := by omega
      have haN' : a < N := by omega
      have hsz := hblo.out.lt
      have hkeep : ∀ W : World, Below wr.heap.size wr W → W.cell? ⟨g, h * 4, none⟩ = some (.int .i64 y.sh) ∧ W.cell? ⟨g, h * 4 + 1, none⟩ = some (.int .i64 y.au) ∧ W.cell? ⟨g, h * 4 + 2, none⟩ = some (.int .i64 y.k) ∧ W.cell? ⟨g, h * 4 + 3, none⟩ = some (.int .i64 y.m) ∧ W.cell? ⟨g, a * 4, none⟩ = some (.int .i64 x.sh) ∧ W.cell? ⟨g, a * 4 + 1, none⟩ = some (.int .i64 x.au) ∧ W.cell? ⟨g, a * 4 + 2, none⟩ = some (.int .i64 x.k) ∧ W.cell? ⟨g, a * 4 + 3, none⟩ = some (.int .i64 x.m) := fun W hb => (hblo.out.below hb hsz).eight (by rw [← HN.out]; exact hhN) (by rw [← HN.out]; exact haN') hgh Hgx.out
      obtain ⟨c1, c2, c3, c4, d1, d2, d3, d4⟩ := hkeep wr (Below.refl _ _)
      have Hh := hid hh
      have HI1 : (h : Int) < N := by omega
      have HI2 : (a : Int) < N := by omega
      obtain ⟨o, ho⟩ : ∃ o, Hid (ordR y x = o) := ⟨_, rfl⟩
      have hord : ∀ W : World, Calls Tryz.prog 67 #[rv y, rv x] W fun e w' => e = .returned (.int .i64 o) ∧ Below W.heap.size W w' := fun W => by rw [← ho.out]; exact order_any y x W
      unfold rv at hord
      clear hgh
      go_upto_region 5 with fail
      try simp only [hh]
      clear hh
      go_region_held3 (fun w' => w'.cell? ⟨g, h * 4, none⟩ = some (.int .i64 y.sh) ∧ w'.cell? ⟨g, h * 4 + 1, none⟩ = some (.int .i64 y.au) ∧ w'.cell? ⟨g, h * 4 + 2, none⟩ = some (.int .i64 y.k) ∧ w'.cell? ⟨g, h * 4 + 3, none⟩ = some (.int .i64 y.m) ∧ w'.cell? ⟨g, a * 4, none⟩ = some (.int .i64 x.sh) ∧ w'.cell? ⟨g, a * 4 + 1, none⟩ = some (.int .i64 x.au) ∧ w'.cell? ⟨g, a * 4 + 2, none⟩ = some (.int .i64 x.k) ∧ w'.cell? ⟨g, a * 4 + 3, none⟩ = some (.int .i64 x.m)) (first | exact ⟨c1, c2, c3, c4, d1, d2, d3, d4⟩ | exact hkeep _ hb2)
        ((go_at_call 67; refine (hord _).mono ?_; rintro e w1 ⟨rfl, hb1⟩; have hb2 : Below wr.heap.size wr w1 := (Below.refl wr.heap.size wr).drew.trans hb1; clear hb1))
      have hB3 := hid (hblo.out.below hb2 hsz)
      have hbw : Below g w w1 := hbel.trans (hb2.mono (Nat.le_of_lt hsz))
      clear hkeep hord hb2
      by_cases ho0 : o < 0
      · have hgt : gtB x y = true := ord_neg.1 (by rw [ho.out]; exact ho0)
        have hnew : Hid (h + 1 = m ∨ gtB x (Y.getD (h + 1 - 1 - m) zR) = true) := hid (Or.inr (by rw [Nat.add_sub_cancel, hy.out]; exact hgt))
        clear hgt
        go_wp2_with fail
        go_roundw
        case rel => exact ⟨h + 1, q, by go_num, rfl, by omega, by omega, h3, hbw, hnew, hhi, hB3⟩
        case measure => simp [intOf]; omega
      · have hgt : gtB x y = false := ord_pos.1 (by rw [ho.out]; exact ho0)
        have hnew : Hid (h = b ∨ gtB x (Y.getD (h - m) zR) = false) := hid (Or.inr (by rw [hy.out]; exact hgt))
        clear hgt
        go_wp2_with fail
        go_roundw
        case rel => exact ⟨p, h, rfl, rfl, h1, hh1, by omega, hbw, hlo, hnew, hB3⟩
        case measure => simp [intOf]; omega
    · obtain rfl : q = p := by omega
      have hfin : Y.take (q - m) ++ x :: Y.drop (q - m) = sortR (x :: Y) := by
        refine merge_left hY (by have := Hb.out; omega) ?_ ?_
        · rcases hlo.out with h | h
          · exact Or.inl (by omega)
          · refine Or.inr ?_
            rw [show q - m - 1 = q - 1 - m by omega]; exact h
        · rcases hhi.out with h | h
          · exact Or.inl (by have := Hb.out; omega)
          · exact Or.inr h
      have Hfin := hid hfin
      have HM : ∀ p, p ≤ Y.length → (P ++ (mid Y x p ++ Q)).length = N := fun p hp => by
        rw [HN.out, List.length_append, List.length_append, List.length_append, List.length_append, mid_length _ _ hp, mid_length _ _ (Nat.zero_le _)]
      have HM' := hid HM
      have hq0 : ((q : Int) - 1) = ((q - 1 : Nat) : Int) := by have := hm'.out; omega
      have hq1 : IntKind.i64.wrap ((q : Int) - 1) = ((q - 1 : Nat) : Int) := (wrap64 (by omega) (by omega)).trans hq0
      have hqa : a ≤ q - 1 := by have := hm'.out; omega
      clear hfin HM hlt hlo hhi hq0
      go_wp2_with fail
      generalize wr = W0 at *
      go_loopw [13] (fun i wr => ∃ p : Nat, i = .int .i64 p ∧ a ≤ p ∧ p ≤ q - 1 ∧ Below g w wr ∧ Hid (Blo wr g (P ++ (mid Y x (p - a) ++ Q)))) (fun i _ => q - (intOf i).toNat)
      case atStart => exact ⟨a, rfl, Nat.le_refl _, hqa, hbel, by rw [Nat.sub_self]; exact hblo⟩
      case round =>
        clear hblo hbel
        obtain ⟨p, rfl, hp1, hp2, hbel, hblo⟩ := hrel
        by_cases hlt : p < q - 1
        · have hlt' : (p : Int) < ((q - 1 : Nat) : Int) := by omega
          have hpY : p - a < Y.length := by have := hm'.out; have := Hb.out; omega
          have hL := hid (HM'.out (p - a) (by omega))
          have hy1 := mid_at P Y x Q (p := p - a) (i := p) (by omega) (by have := Ha.out; omega)
          have hy2 := mid_next P Y x Q (p := p - a) (i := p + 1) hpY (by have := Ha.out; omega)
          have hnext := hid (swp_mid' P Y x Q (p := p - a) (i := p) (j := p + 1) hpY (by have := Ha.out; omega) (by have := Ha.out; omega))
          obtain ⟨y, hy⟩ : ∃ y, Hid (Y.getD (p - a) zR = y) := ⟨_, rfl⟩
          rw [hy.out] at hy2
          have hpN : p + 1 < N := by have := hm'.out; have := Hb.out; omega
          have hpN' : p < N := by omega
          obtain ⟨c1, c2, c3, c4, d1, d2, d3, d4⟩ := hblo.out.eight (by rw [hL.out]; exact hpN') (by rw [hL.out]; exact hpN) hy1 hy2
          have fr := hblo.out.free
          have Hy1 := hid hy1
          have Hy2 := hid hy2
          have HI1 : (p : Int) + 1 < N := by omega
          have HI2 : (p : Int) < N := by omega
          clear hy1 hy2
          go_upto_region 11 with fail
          go_region
          have hP := hblo.out.swp (i := p) (j := p + 1) (by rw [hL.out]; exact hpN') (by rw [hL.out]; exact hpN) Hy1.out Hy2.out
          have hQ := put4_below (put4_below hbel g (p * 4) (Nat.le_refl _) y) g ((p + 1) * 4) (Nat.le_refl _) x
          rw [hnext.out] at hP
          unfold put4 at hP hQ
          go_wp2_with fail
          go_roundw
          case rel => exact ⟨p + 1, by go_num, by omega, by omega, hQ.drew, by rw [show p + 1 - a = p - a + 1 by omega]; exact hP.drew⟩
          case measure => simp [intOf]; omega
        · have hlt' : ¬ ((p : Int) < ((q - 1 : Nat) : Int)) := by omega
          have hE : Hid (Blo wr g (P ++ (sortR (x :: Y) ++ Q))) := by
            have := hblo.out
            rw [show p - a = q - m by have := hm'.out; omega] at this
            unfold mid at this
            rw [Hfin.out] at this
            exact this
          go_wp2_with fail
          refine bodyPost_ret (results_none rfl _ _ _) rfl ?_
          exact ⟨rfl, hbel, hE.out⟩
end Go.Proofs.YtodkcagingnelacGreatDoor.Dy
namespace Go.Proofs.YtodkcagingnelacGreatDoor.Dy
open Go.RowKit Go.Proofs.YtodkcagingnelacGreatDoor.Gn
set_option maxRecDepth 10000 in
set_option maxHeartbeats 3200000 in
theorem symRight_any (P X Q : List Rc) (y : Rc) (hX : Srt X) (g N cap a m b : Nat) (ha : a = P.length) (hm : m = a + X.length) (hm1 : 0 < X.length) (hm2 : X.length ≠ 1) (hb : b = m + 1) (w : World)
    (hN : N = (P ++ (mid X y X.length ++ Q)).length) (hN2 : N ≤ 1152921504606846976) (hB : Blo w g (P ++ (mid X y X.length ++ Q))) :
    Calls Tryz.prog 115 #[.slice (some ⟨g, 0, none⟩) N cap, .int .i64 a, .int .i64 m, .int .i64 b, .func (.func 67) #[] #[]] w fun e w' => e = .returned (.tuple #[]) ∧ Sorts w g (P ++ (sortR (X ++ [y]) ++ Q)) w' := by
  have hNn : P.length + X.length + 1 + Q.length = N := by rw [hN, List.length_append, List.length_append, mid_length _ _ (Nat.le_refl _)]; omega
  have HN : Hid (N = (P ++ (mid X y X.length ++ Q)).length) := hN
  have hL0 : P ++ (mid X y X.length ++ Q) = P ++ (X ++ ([y] ++ Q)) := by simp [mid]
  have hgx : (P ++ (mid X y X.length ++ Q)).getD m zR = y := mid_at P X y Q (Nat.le_refl _) (by omega)
  have hgy : ∀ h, a ≤ h → h < m → (P ++ (mid X y X.length ++ Q)).getD h zR = X.getD (h - a) zR := fun h h1 h2 => by
    rw [hL0, getD_mid P X _ (by omega) (by omega), ha]
  have Hgx := hid hgx
  have Hgy := hid hgy
  have Ha := hid ha
  have Hb := hid hb
  obtain ⟨c, hc⟩ : ∃ c : Nat, m - a = c := ⟨_, rfl⟩
  have hc1 : ((c : Int) == 1) = false := by simp; omega
  have e1 : IntKind.i64.wrap ((m : Int) - a) = c := (wrap64 (by omega) (by omega)).trans (by omega)
  have e2 : IntKind.i64.wrap ((b : Int) - m) = 1 := (wrap64 (by omega) (by omega)).trans (by omega)
  have hmN : a < m := by omega
  have hbN : m < N := by omega
  have hbb : b ≤ N := by omega
  have hm' : Hid (m = a + X.length) := hm
  clear hN hL0 hgx hgy ha hb hNn hm hm1 hm2 hc
  go_enter Tryz.func115, Tryz.ntmps115
  go_wp2
  go_loopw [14, 15] (fun i j wr => ∃ (p q : Nat), i = .int .i64 p ∧ j = .int .i64 q ∧ a ≤ p ∧ p ≤ q ∧ q ≤ m ∧ Below g w wr ∧ Hid (p = a ∨ gtB (X.getD (p - 1 - a) zR) y = false) ∧ Hid (q = m ∨ gtB (X.getD (q - a) zR) y = true) ∧ Hid (Blo wr g (P ++ (mid X y X.length ++ Q)))) (fun i j _ => (intOf j).toNat - (intOf i).toNat)
  case atStart => exact ⟨a, m, rfl, rfl, Nat.le_refl _, Nat.le_of_lt hmN, Nat.le_refl _, Below.refl _ _, Or.inl rfl, Or.inl rfl, hB⟩
  case round =>
    clear hB
    obtain ⟨p, q, rfl, rfl, h1, h2, h3, hbel, hlo, hhi, hblo⟩ := hrel
    by_cases hlt : p < q
    · have hlt' : (p : Int) < q := by omega
      obtain ⟨h, hh, hh1, hh2⟩ : ∃ h : Nat, ((p : Int) + (q : Int)) / 2 = (h : Int) ∧ p ≤ h ∧ h < q := ⟨(p + q) / 2, by omega, by omega, by omega⟩
      have hgh := Hgy.out h (by omega) (by omega)
      obtain ⟨x, hy⟩ : ∃ x, Hid (X.getD (h - a) zR = x) := ⟨_, rfl⟩
      rw [hy.out] at hgh
      have hhN : h < N := by omega
      have hsz := hblo.out.lt
      have hkeep : ∀ W : World, Below wr.heap.size wr W → W.cell? ⟨g, m * 4, none⟩ = some (.int .i64 y.sh) ∧ W.cell? ⟨g, m * 4 + 1, none⟩ = some (.int .i64 y.au) ∧ W.cell? ⟨g, m * 4 + 2, none⟩ = some (.int .i64 y.k) ∧ W.cell? ⟨g, m * 4 + 3, none⟩ = some (.int .i64 y.m) ∧ W.cell? ⟨g, h * 4, none⟩ = some (.int .i64 x.sh) ∧ W.cell? ⟨g, h * 4 + 1, none⟩ = some (.int .i64 x.au) ∧ W.cell? ⟨g, h * 4 + 2, none⟩ = some (.int .i64 x.k) ∧ W.cell? ⟨g, h * 4 + 3, none⟩ = some (.int .i64 x.m) := fun W hb => (hblo.out.below hb hsz).eight (by rw [← HN.out]; exact hbN) (by rw [← HN.out]; exact hhN) Hgx.out hgh
      obtain ⟨c1, c2, c3, c4, d1, d2, d3, d4⟩ := hkeep wr (Below.refl _ _)
      have HI1 : (h : Int) < N := by omega
      have HI2 : (m : Int) < N := by omega
      obtain ⟨o, ho⟩ : ∃ o, Hid (ordR y x = o) := ⟨_, rfl⟩
      have hord : ∀ W : World, Calls Tryz.prog 67 #[rv y, rv x] W fun e w' => e = .returned (.int .i64 o) ∧ Below W.heap.size W w' := fun W => by rw [← ho.out]; exact order_any y x W
      unfold rv at hord
      clear hgh
      go_upto_region 17 with fail
      try simp only [hh]
      clear hh
      go_region_held3 (fun w' => w'.cell? ⟨g, m * 4, none⟩ = some (.int .i64 y.sh) ∧ w'.cell? ⟨g, m * 4 + 1, none⟩ = some (.int .i64 y.au) ∧ w'.cell? ⟨g, m * 4 + 2, none⟩ = some (.int .i64 y.k) ∧ w'.cell? ⟨g, m * 4 + 3, none⟩ = some (.int .i64 y.m) ∧ w'.cell? ⟨g, h * 4, none⟩ = some (.int .i64 x.sh) ∧ w'.cell? ⟨g, h * 4 + 1, none⟩ = some (.int .i64 x.au) ∧ w'.cell? ⟨g, h * 4 + 2, none⟩ = some (.int .i64 x.k) ∧ w'.cell? ⟨g, h * 4 + 3, none⟩ = some (.int .i64 x.m)) (first | exact ⟨c1, c2, c3, c4, d1, d2, d3, d4⟩ | exact hkeep _ hb2)
        ((go_at_call 67; refine (hord _).mono ?_; rintro e w1 ⟨rfl, hb1⟩; have hb2 : Below wr.heap.size wr w1 := (Below.refl wr.heap.size wr).drew.trans hb1; clear hb1))
      have hB3 := hid (hblo.out.below hb2 hsz)
      have hbw : Below g w w1 := hbel.trans (hb2.mono (Nat.le_of_lt hsz))
      clear hkeep hord hb2
      by_cases ho0 : o < 0
      · have hgt : gtB x y = true := ord_neg.1 (by rw [ho.out]; exact ho0)
        have hnew : Hid (h = m ∨ gtB (X.getD (h - a) zR) y = true) := hid (Or.inr (by rw [hy.out]; exact hgt))
        have hd : decide (o < 0) = true := by simpa using ho0
        simp only [hd, Bool.not_true]
        clear hgt
        go_wp2_with fail
        go_roundw
        case rel => exact ⟨p, h, rfl, rfl, h1, hh1, by omega, hbw, hlo, hnew, hB3⟩
        case measure => simp [intOf]; omega
      · have hgt : gtB x y = false := ord_pos.1 (by rw [ho.out]; exact ho0)
        have hnew : Hid (h + 1 = a ∨ gtB (X.getD (h + 1 - 1 - a) zR) y = false) := hid (Or.inr (by rw [Nat.add_sub_cancel, hy.out]; exact hgt))
        have hd : decide (o < 0) = false := by simpa using ho0
        simp only [hd, Bool.not_false]
        clear hgt
        go_wp2_with fail
        go_roundw
        case rel => exact ⟨h + 1, q, by go_num, rfl, by omega, by omega, h3, hbw, hnew, hhi, hB3⟩
        case measure => simp [intOf]; omega
    · obtain rfl : q = p := by omega
      have hfin : X.take (q - a) ++ y :: X.drop (q - a) = sortR (X ++ [y]) := by
        refine merge_right hX (by have := hm'.out; omega) ?_ ?_
        · rcases hlo.out with h | h
          · exact Or.inl (by omega)
          · refine Or.inr ?_
            rw [show q - a - 1 = q - 1 - a by omega]; exact h
        · rcases hhi.out with h | h
          · exact Or.inl (by have := hm'.out; omega)
          · exact Or.inr h
      have Hfin := hid hfin
      have HM : ∀ p, p ≤ X.length → (P ++ (mid X y p ++ Q)).length = N := fun p hp => by
        rw [HN.out, List.length_append, List.length_append, List.length_append, List.length_append, mid_length _ _ hp, mid_length _ _ (Nat.le_refl _)]
      have HM' := hid HM
      clear hfin HM hlt hlo hhi
      go_wp2_with fail
      generalize wr = W0 at *
      go_loopw [17] (fun i wr => ∃ p : Nat, i = .int .i64 p ∧ q ≤ p ∧ p ≤ m ∧ Below g w wr ∧ Hid (Blo wr g (P ++ (mid X y (p - a) ++ Q)))) (fun i _ => (intOf i).toNat)
      case atStart => exact ⟨m, rfl, h3, Nat.le_refl _, hbel, by rw [show m - a = X.length by have := hm'.out; omega]; exact hblo⟩
      case round =>
        clear hblo hbel
        obtain ⟨p, rfl, hp1, hp2, hbel, hblo⟩ := hrel
        by_cases hlt : q < p
        · obtain ⟨r, rfl⟩ : ∃ r, p = r + 1 := ⟨p - 1, by omega⟩
          have hlt' : (q : Int) < (r : Int) + 1 := by omega
          have hpX : r - a < X.length := by have := hm'.out; omega
          rw [show r + 1 - a = r - a + 1 by omega] at hblo
          have hL := hid (HM'.out (r - a + 1) (by omega))
          have hy1 := mid_at P X y Q (p := r - a + 1) (i := r + 1) (by omega) (by have := Ha.out; omega)
          have hy2 := mid_ahead P X y Q (p := r - a) (i := r) hpX (by have := Ha.out; omega)
          have hnext := hid (swp_mid P X y Q (p := r - a) (i := r) (j := r + 1) hpX (by have := Ha.out; omega) (by have := Ha.out; omega))
          obtain ⟨x, hy⟩ : ∃ x, Hid (X.getD (r - a) zR = x) := ⟨_, rfl⟩
          rw [hy.out] at hy2
          have hpN : r + 1 < N := by omega
          have hpN' : r < N := by omega
          obtain ⟨c1, c2, c3, c4, d1, d2, d3, d4⟩ := hblo.out.eight (by rw [hL.out]; exact hpN) (by rw [hL.out]; exact hpN') hy1 hy2
          have fr := hblo.out.free
          have Hy1 := hid hy1
          have Hy2 := hid hy2
          have HI1 : (r : Int) + 1 < N := by omega
          have HI2 : (r : Int) < N := by omega
          have hW1 : IntKind.i64.wrap ((r : Int) + 1 - 1) = r := (wrap64 (by omega) (by omega)).trans (by omega)
          have hW2 : IntKind.i64.wrap (r : Int) = r := wrap64 (by omega) (by omega)
          clear hy1 hy2
          go_upto_region 23 with fail
          go_region
          have hP := hblo.out.swp (i := r + 1) (j := r) (by rw [hL.out]; exact hpN) (by rw [hL.out]; exact hpN') Hy1.out Hy2.out
          have hQ := put4_below (put4_below hbel g ((r + 1) * 4) (Nat.le_refl _) x) g (r * 4) (Nat.le_refl _) y
          rw [hnext.out] at hP
          unfold put4 at hP hQ
          go_wp2_with fail
          go_roundw
          case rel => exact ⟨r, by go_num, by omega, by omega, hQ.drew, hP.drew⟩
          case measure => simp [intOf]
        · have hlt' : ¬ ((q : Int) < (p : Int)) := by omega
          have hE : Hid (Blo wr g (P ++ (sortR (X ++ [y]) ++ Q))) := by
            have := hblo.out
            rw [show p - a = q - a by omega] at this
            unfold mid at this
            rw [Hfin.out] at this
            exact this
          go_wp2_with fail
          refine bodyPost_ret (results_none rfl _ _ _) rfl ?_
          exact ⟨rfl, hbel, hE.out⟩
end Go.Proofs.YtodkcagingnelacGreatDoor.Dy
