/- ReadCanon of the specification. -/
import Derived.Test.YthhkjnpeopfmjaaVrMath
import Derived.Test.YthhkjnpeopfmjaaVkSpec
import Derived.Test.YthhkjnpeopfmjaaRvWalk
namespace Go.Proofs.Ythhkjnpeopfmjaa
open Go.RowKit
set_option linter.unusedVariables false
set_option linter.unusedSimpArgs false

theorem ext_app (a b : ByteArray) (n : Nat) (h : a.size = n) : (a ++ b).extract n (a ++ b).size = b := by
  apply ByteArray.ext
  apply Array.toList_inj.1
  rw [ByteArray.data_extract, Array.toList_extract, ByteArray.size_append, List.extract_eq_take_drop, ByteArray.data_append, Array.toList_append]
  have hl : a.data.toList.length = n := h
  rw [List.drop_left' hl, List.take_of_length_le]
  have h2 : b.data.toList.length = b.size := rfl
  omega

theorem ext_ext (s : ByteArray) (a b : Nat) (h : a + b ≤ s.size) : (s.extract a s.size).extract b (s.extract a s.size).size = s.extract (a + b) s.size := by
  rw [ByteArray.extract_extract]
  congr 1
  simp
  omega

theorem has_tail {s : ByteArray} {L : List S_Pair} (h : okV L) (e : canT L = s) : s.extract 4 s.size = catN (flatP L) ∧ 4 ≤ s.size ∧ s.size ≤ 250 ∧ 3 ≤ s.size := by
  have h1 := canT_cat h
  have h2 := okV_len h
  have hz := canT_size L
  have e1 : (vrV (L.length : Int)).size = 1 := by unfold vrV; rw [strOfNums_size, varL_last _ (by omega)]; rfl
  have e2 : ((⟨#[98, 112, 101]⟩ : ByteArray) ++ vrV (L.length : Int)).size = 4 := by rw [ByteArray.size_append, e1]; rfl
  have e3 : s = ((⟨#[98, 112, 101]⟩ : ByteArray) ++ vrV (L.length : Int)) ++ catN (flatP L) := by
    rw [← e, h1, ba_assoc]; rfl
  have e4 : s.size = 4 + (catN (flatP L)).size := by rw [e3, ByteArray.size_append, e2]
  refine ⟨?_, by omega, by rw [← e]; exact hz, by omega⟩
  have := ext_app _ (catN (flatP L)) 4 e2
  rw [← e3] at this
  exact this

theorem has_inN {L : List S_Pair} (h : okV L) : InN (flatP L) := fun n hn => okV_inN h n (List.mem_cons_of_mem _ hn)

theorem rdc_bad {s : ByteArray} {acc : List S_Pair} {k : Nat} (hA : InN (flatP acc)) (hk : k < s.size) (hs : s.extract 4 s.size = catN (flatP acc) ++ s.extract k s.size)
    (h : (rv0 (s.extract k s.size)).2 = 0 ∨ (rv0 (s.extract (k + (rv0 (s.extract k s.size)).2.toNat) s.size)).2 = 0) : ¬ HasV s := by
  rintro ⟨L, hL, e⟩
  obtain ⟨h1, _⟩ := has_tail hL e
  rw [hs] at h1
  obtain ⟨B, h2, h3⟩ := split_cat _ _ _ hA (has_inN hL) h1
  obtain ⟨K, h4, h5⟩ := flatP_split h2
  have hz : (s.extract k s.size).size = s.size - k := by simp
  cases K with
  | nil =>
    subst h5
    rw [h3] at hz
    have : (catN (flatP [])).size = 0 := rfl
    omega
  | cons p K =>
    have hin := has_inN hL
    rw [h4, flatP_app] at hin
    have hp0 := hin p.f0 (List.mem_append_right _ List.mem_cons_self)
    have hp1 := hin p.f1 (List.mem_append_right _ (List.mem_cons_of_mem _ List.mem_cons_self))
    have e1 : s.extract k s.size = vrV p.f0 ++ (vrV p.f1 ++ catN (flatP K)) := by rw [h3, h5]; rfl
    have r1 := rv_cat p.f0 (vrV p.f1 ++ catN (flatP K)) hp0.1 hp0.2
    rw [← e1] at r1
    have q0 := vrV_pos p.f0
    have q1 := vrV_pos p.f1
    rw [r1] at h
    rcases h with h | h
    · have h' : ((vrV p.f0).size : Int) = 0 := h
      omega
    · have e2 : s.extract (k + (vrV p.f0).size) s.size = vrV p.f1 ++ catN (flatP K) := by
        have hle : k + (vrV p.f0).size ≤ s.size := by
          have := congrArg ByteArray.size e1
          rw [ByteArray.size_append] at this
          omega
        rw [← ext_ext s k _ hle, e1]
        exact ext_app _ _ _ rfl
      have h' : (rv0 (s.extract (k + (vrV p.f0).size) s.size)).2 = 0 := h
      rw [e2, rv_cat p.f1 (catN (flatP K)) hp1.1 hp1.2] at h'
      have h6 : ((vrV p.f1).size : Int) = 0 := h'
      omega

theorem rdc_more {s : ByteArray} {acc : List S_Pair} {k n m : Nat} {a b : Int} (hA : InN (flatP acc)) (hk : k < s.size) (hs : s.extract 4 s.size = catN (flatP acc) ++ s.extract k s.size)
    (h1 : rv0 (s.extract k s.size) = (a, (n : Int))) (h2 : rv0 (s.extract (k + n) s.size) = (b, (m : Int))) (hn : n ≠ 0) (hm : m ≠ 0) :
    InN (flatP (acc ++ ([⟨a, b⟩] : List S_Pair))) ∧ s.extract 4 s.size = catN (flatP (acc ++ ([⟨a, b⟩] : List S_Pair))) ++ s.extract (k + n + m) s.size ∧ k + n + m ≤ s.size := by
  obtain ⟨n', e1, e2, e3, e4, e5⟩ := rv_some (s.extract k s.size) (by rw [h1]; show (n : Int) ≠ 0; omega)
  rw [h1] at e1 e4 e5
  have hn' : n' = n := by have : (n : Int) = (n' : Int) := e1; omega
  subst hn'
  have hz : (s.extract k s.size).size = s.size - k := by simp
  have hz2 : (s.extract (k + n') s.size).size = s.size - (k + n') := by simp
  obtain ⟨m', f1, f2, f3, f4, f5⟩ := rv_some (s.extract (k + n') s.size) (by rw [h2]; show (m : Int) ≠ 0; omega)
  rw [h2] at f1 f4 f5
  have hm' : m' = m := by have : (m : Int) = (m' : Int) := f1; omega
  subst hm'
  refine ⟨?_, ?_, by omega⟩
  · rw [flatP_one]
    intro x hx
    rcases List.mem_append.1 hx with hx | hx
    · exact hA x hx
    · rcases List.mem_cons.1 hx with rfl | hx
      · exact e4
      · rw [List.mem_singleton.1 hx]; exact f4
  · have e5' : s.extract k s.size = vrV a ++ s.extract (k + n') s.size := by rw [← ext_ext s k n' (by omega)]; exact e5
    have f5' : s.extract (k + n') s.size = vrV b ++ s.extract (k + n' + m') s.size := by rw [← ext_ext s (k + n') m' (by omega)]; exact f5
    rw [hs, e5', f5', flatP_one, catN_app]
    show _ = catN (flatP acc) ++ (vrV a ++ (vrV b ++ ⟨#[]⟩)) ++ _
    rw [ba_addE]
    simp only [ba_assoc]

theorem rdc_end {s : ByteArray} {acc : List S_Pair} (hA : InN (flatP acc)) (hs : s.extract 4 s.size = catN (flatP acc)) (h : canT acc ≠ s) : ¬ HasV s := by
  rintro ⟨L, hL, e⟩
  obtain ⟨h1, _⟩ := has_tail hL e
  rw [hs] at h1
  have := flatP_inj (cat_inj hA (has_inN hL) h1)
  exact h (by rw [this]; exact e)

theorem canT_ok {acc : List S_Pair} {s : ByteArray} (h : canT acc = s) (h4 : 4 ≤ s.size) : okV acc := by
  by_cases hk : okV acc
  · exact hk
  · unfold canT at h
    rw [if_neg hk] at h
    rw [← h] at h4
    exact absurd h4 (by decide)

theorem frz1 {w : World} {b : Nat} {a0 : Value} {t : TypeId} (h : w.heap[b]? = some (.cells #[a0] t)) (o : Nat) : w.frozen? ⟨b, o, none⟩ = false := by
  simp [World.frozen?, h]

theorem set1 {w : World} {b : Nat} {a0 : Value} {t : TypeId} (h : w.heap[b]? = some (.cells #[a0] t)) (u : Value) : (w.setCell ⟨b, 0, none⟩ u).heap[b]? = some (.cells #[u] t) := by
  simp only [World.setCell, Array.getElem?_modify, if_true, h]
  rfl

theorem sl_atV (s : ByteArray) (a : Nat) (x : Int) (hx : x = (a : Int)) (h : a ≤ s.size) : ∀ W, (Instr.slice 9 (.string s) (some (.int .i64 x)) none none).run Try.prog W = .ok (.string (s.extract a s.size)) W := fun W => by
  subst hx
  rw [run_slice_string_l (P := Try.prog) W 9 s Try.underlying9 .i64 (a : Int) (by omega) (by omega)]
  rw [Int.toNat_natCast]

theorem infoPr : (Try.prog.info? 53).map (fun i => (i.zero, i.size, i.bytes)) = some (some (.agg #[.int .i64 0, .int .i64 0]), 2, 16) := by kernel_rfl

theorem rPair_one (L : List S_Pair) (p : S_Pair) : rPair (L ++ [p]) = rPair L ++ [.int .i64 p.f0, .int .i64 p.f1] := by
  unfold rPair
  rw [List.flatMap_append]
  rfl

theorem srv_c (s : ByteArray) (w : World) (hs : s.size ≤ 1048576) : Calls Try.prog 38 #[.string s] w fun e w' => e = .returned (.tuple #[.int .i64 (rv0 s).1, .int .i64 (rv0 s).2]) ∧ Below w.heap.size w w' := specRv_any s w hs

theorem irv_c (s : ByteArray) (w : World) (hs : s.size ≤ 1048576) : Calls Try.prog 51 #[.string s] w fun e w' => e = .returned (.tuple #[.int .i64 (rv0 s).1, .int .i64 (rv0 s).2]) ∧ w' = w := implRv_any s w hs

theorem rdc_no {s : ByteArray} {w w' : World} (h : ¬ HasV s) (hb : Below w.heap.size w w') : RdcR s w (.returned (.tuple #[.agg #[.slice none 0 0], .bool false])) w' := ⟨hb, .inr ⟨h, rfl⟩⟩

theorem rdc_yes {s : ByteArray} {w w' : World} {L : List S_Pair} {v : Value} (h : okV L) (e : canT L = s) (ho : w'.ownsRow w.heap.size 53 2 v L.length (rPair L)) (hb : Below w.heap.size w w') : RdcR s w (.returned (.tuple #[.agg #[v], .bool true])) w' := ⟨hb, .inl ⟨L, v, h, e, rfl, ho⟩⟩

/-- What stands between the call's own row and its boxes. -/
theorem heap_grown {w w1 : World} {base k : Nat} {e : TypeId} {size n : Nat} {v : Value} {xs : List Value} {o o2 : Obj} (ho : w.ownsRow base e size v n xs) (hg : (w.alloc o2).grownBy w1 v.ownBlock) (hk : k < base) (h : w.heap[k]? = some o) : w1.heap[k]? = some o := by
  have hlt := lt_of_some h
  rw [hg.block k (by rw [World.size_alloc]; omega) (fun e1 => by have := (ho.lt k e1.symm).1; omega)]
  rw [← h]
  exact (((Below.refl w.heap.size w).alloc (Nat.le_refl _) o2).block k hlt)

theorem ext_emptyV (s : ByteArray) : s.extract s.size s.size = (⟨#[]⟩ : ByteArray) := by
  apply ByteArray.ext
  apply Array.toList_inj.1
  rw [ByteArray.data_extract, Array.toList_extract, List.extract_eq_take_drop]
  simp

theorem cell_two_new (w : World) (a b : Value) (t : TypeId) : ∀ j u, ([a, b] : List Value)[j]? = some u → (w.alloc (.cells #[a, b] t)).cell? ((⟨w.heap.size, 0, none⟩ : Addr).add j) = some u := fun j u h => by
  rw [Addr.add_mid, Nat.zero_add]
  simp only [World.cell?, alloc_last]
  simpa using h

set_option maxRecDepth 20000 in
set_option maxHeartbeats 4000000 in
theorem specRead_c (s : ByteArray) (w : World) (hs : s.size ≤ 1048576) : Calls Try.prog 19 #[.string s] w (RdcR s w) := by
  obtain ⟨W0, hW0⟩ : ∃ W, W = w.alloc (.cells #[.slice none 0 0] 29) := ⟨_, rfl⟩
  have HW0 : Hid (w.alloc (.cells #[.slice none 0 0] 29) = W0) := hW0.symm
  have HX0 : Hid (W0.heap[w.heap.size]? = some (.cells #[.slice none 0 0] 29)) := by rw [hW0]; exact alloc_last _ _
  have HZ0 : Hid (W0.heap.size = w.heap.size + 1) := by show _ = _; rw [hW0]; simp
  have HB0 : Hid (Below w.heap.size w W0) := by rw [hW0]; exact (Below.refl _ _).alloc (Nat.le_refl _) _
  clear hW0
  have HS : Hid (s.size ≤ 1048576) := hs
  have hsI : (s.size : Int) ≤ 1048576 := by omega
  obtain ⟨i0, hi, hz0, hz1, hz2⟩ := info_parts infoPr
  have hml : (1048577 : Nat) ≤ maxLen := by unfold maxLen; omega
  by_cases h4 : (s.size : Int) < 4
  · have HF : Hid (¬ HasV s) := fun ⟨L, hL, e⟩ => by have := (has_tail hL e).2.1; omega
    have z0 := box1 HX0.out
    have zf0 := frz1 HX0.out 0
    go_enter Try.func19, Try.ntmps19
    go_wp2_with fail
    rw [HW0.out]
    refine bodyPost_ret (v := .tuple #[.agg #[.slice none 0 0], .bool false]) (by simp [results, Try.results19, go_sem, z0]) rfl ?_
    exact rdc_no HF.out HB0.out
  by_cases h250 : (250 : Int) < (s.size : Int)
  · have HF : Hid (¬ HasV s) := fun ⟨L, hL, e⟩ => by have := (has_tail hL e).2.2.1; omega
    have z0 := box1 HX0.out
    have zf0 := frz1 HX0.out 0
    go_enter Try.func19, Try.ntmps19
    go_wp2_with fail
    rw [HW0.out]
    refine bodyPost_ret (v := .tuple #[.agg #[.slice none 0 0], .bool false]) (by simp [results, Try.results19, go_sem, z0]) rfl ?_
    exact rdc_no HF.out HB0.out
  have H4 : Hid (4 ≤ s.size) := by show _ ≤ _; omega
  have H250 : Hid (s.size ≤ 250) := by show _ ≤ _; omega
  obtain ⟨WB, hWB⟩ : ∃ W, W = W0.alloc (.cells #[.slice none 0 0] 29) := ⟨_, rfl⟩
  have HWB : Hid (W0.alloc (.cells #[.slice none 0 0] 29) = WB) := hWB.symm
  have HXB : Hid (WB.heap[w.heap.size]? = some (.cells #[.slice none 0 0] 29)) := by rw [hWB]; exact (((Below.refl W0.heap.size W0).alloc (Nat.le_refl _) _).block _ (lt_of_some HX0.out)).trans HX0.out
  have HYB : Hid (WB.heap[W0.heap.size]? = some (.cells #[.slice none 0 0] 29)) := by rw [hWB]; exact alloc_last _ _
  have HBB : Hid (Below w.heap.size w WB) := by rw [hWB]; exact HB0.out.alloc HB0.out.size _
  have HZB : Hid (WB.heap.size = w.heap.size + 2) := by show _ = _; rw [hWB]; simp [HZ0.out]
  have hz1' : w.heap.size + 1 = W0.heap.size := HZ0.out.symm
  clear hWB hs
  go_enter Try.func19, Try.ntmps19
  go_wp2_with fail
  rw [HW0.out]
  go_loopw [5] (fun iv wr => ∃ (k : Nat) (acc : List S_Pair) (v : Value), 4 ≤ k ∧ k ≤ s.size ∧ iv = .int .i64 (k : Int) ∧ Hid (wr.heap[w.heap.size]? = some (.cells #[.slice none 0 0] 29)) ∧ Hid (wr.heap[W0.heap.size]? = some (.cells #[v] 29)) ∧ Hid (wr.ownsRow WB.heap.size 53 2 v acc.length (rPair acc)) ∧ Hid (Below w.heap.size w wr) ∧ Hid (WB.heap.size ≤ wr.heap.size) ∧ Hid (InN (flatP acc)) ∧ Hid (s.extract 4 s.size = catN (flatP acc) ++ s.extract k s.size)) (fun iv _ => s.size - (intOf iv).toNat)
  case atStart => exact ⟨4, [], .slice none 0 0, Nat.le_refl _, H4.out, rfl, by rw [HWB.out]; exact HXB, by rw [HWB.out]; exact HYB, ⟨rfl, Or.inl ⟨rfl, rfl⟩⟩, by rw [HWB.out]; exact HBB, by rw [HWB.out]; exact Nat.le_refl _, (show InN (flatP []) from fun _ h => by cases h), (show s.extract 4 s.size = catN (flatP []) ++ s.extract 4 s.size from (ba_nilE _).symm)⟩
  case round =>
    obtain ⟨k, acc, v, hk4, hk, rfl, HX, HY, HO, HB, HLe, HA, HT⟩ := hrel
    by_cases hlt : k < s.size
    · have hlt' : (k : Int) < s.size := by omega
      have hkI : (k : Int) ≤ s.size := by omega
      obtain ⟨a, n, h1⟩ : ∃ (a : Int) (n : Nat), rv0 (s.extract k s.size) = (a, (n : Int)) := ⟨(rv0 (s.extract k s.size)).1, (rv0 (s.extract k s.size)).2.toNat, by have := (rv_bound (s.extract k s.size)).2.2.1; rw [Int.toNat_of_nonneg this]⟩
      have hnb : n ≤ s.size - k := by
        have := (rv_bound (s.extract k s.size)).2.2.2
        rw [h1] at this
        have hz : (s.extract k s.size).size = s.size - k := by simp
        have h' : (n : Int) ≤ ((s.extract k s.size).size : Int) := this
        omega
      obtain ⟨b, m, h2⟩ : ∃ (b : Int) (m : Nat), rv0 (s.extract (k + n) s.size) = (b, (m : Int)) := ⟨(rv0 (s.extract (k + n) s.size)).1, (rv0 (s.extract (k + n) s.size)).2.toNat, by have := (rv_bound (s.extract (k + n) s.size)).2.2.1; rw [Int.toNat_of_nonneg this]⟩
      have hmb : m ≤ s.size - (k + n) := by
        have := (rv_bound (s.extract (k + n) s.size)).2.2.2
        rw [h2] at this
        have hz : (s.extract (k + n) s.size).size = s.size - (k + n) := by simp
        have h' : (m : Int) ≤ ((s.extract (k + n) s.size).size : Int) := this
        omega
      have HN1 : Hid ((n = 0 ∨ m = 0) → ¬ HasV s) := fun h => rdc_bad HA.out hlt HT.out (h.elim (fun h => .inl (by rw [h1, h]; rfl)) (fun h => .inr (by rw [h1]; show (rv0 (s.extract (k + n) s.size)).2 = 0; rw [h2, h]; rfl)))
      have HM1 : Hid (n ≠ 0 → m ≠ 0 → InN (flatP (acc ++ ([⟨a, b⟩] : List S_Pair))) ∧ s.extract 4 s.size = catN (flatP (acc ++ ([⟨a, b⟩] : List S_Pair))) ++ s.extract (k + n + m) s.size ∧ k + n + m ≤ s.size) := fun hn hm => rdc_more HA.out hlt HT.out h1 h2 hn hm
      have HL : Hid (acc.length ≤ 250) := by
        have e1 := catN_len (flatP acc)
        have e2 := flatP_len acc
        have e3 := congrArg ByteArray.size HT.out
        rw [ByteArray.size_append] at e3
        have e4 : (s.extract 4 s.size).size = s.size - 4 := by simp
        have := H250.out
        show _ ≤ _
        omega
      have H1 : Hid ((rv0 (s.extract k s.size)).1 = a ∧ (rv0 (s.extract k s.size)).2 = (n : Int)) := by show _ ∧ _; rw [h1]; exact ⟨rfl, rfl⟩
      have H2 : Hid ((rv0 (s.extract (k + n) s.size)).1 = b ∧ (rv0 (s.extract (k + n) s.size)).2 = (m : Int)) := by show _ ∧ _; rw [h2]; exact ⟨rfl, rfl⟩
      have HT1 : Hid ((s.extract k s.size).size ≤ 1048576) := by show _ ≤ _; simp; have := H250.out; omega
      have HT2 : Hid ((s.extract (k + n) s.size).size ≤ 1048576) := by show _ ≤ _; simp; have := H250.out; omega
      have hsl1 := sl_atV s k (k : Int) rfl hk
      have hsl2 := sl_atV s (k + n) ((k : Int) + (n : Int)) (by omega) (by omega)
      have hw1 : IntKind.i64.wrap ((k : Int) + (n : Int)) = (k : Int) + (n : Int) := IntWalk.i64_in _ (by omega)
      have hw2 : IntKind.i64.wrap ((k : Int) + (n : Int) + (m : Int)) = (k : Int) + (n : Int) + (m : Int) := IntWalk.i64_in _ (by omega)
      clear h1 h2
      generalize s.extract k s.size = T at H1 HT1 hsl1 HT
      generalize s.extract (k + n) s.size = U at H2 HT2 hsl2
      go_wp2_with fail
      refine (srv_c T wr HT1.out).mono ?_
      rintro e w1 ⟨rfl, b1⟩
      rw [H1.out.1, H1.out.2]
      have HX1 : Hid (w1.heap[w.heap.size]? = some (.cells #[.slice none 0 0] 29)) := (b1.block _ (lt_of_some HX.out)).trans HX.out
      have HY1 : Hid (w1.heap[W0.heap.size]? = some (.cells #[v] 29)) := (b1.block _ (lt_of_some HY.out)).trans HY.out
      have HO1 : Hid (w1.ownsRow WB.heap.size 53 2 v acc.length (rPair acc)) := own_bel HO.out b1 (Nat.le_refl _)
      have HB1 : Hid (Below w.heap.size w w1) := HB.out.trans (b1.mono HB.out.size)
      have HL1 : Hid (WB.heap.size ≤ w1.heap.size) := Nat.le_trans HLe.out b1.size
      clear b1
      go_wp2_with fail
      refine (srv_c U w1 HT2.out).mono ?_
      rintro e w2 ⟨rfl, b2⟩
      rw [H2.out.1, H2.out.2]
      have HX2 : Hid (w2.heap[w.heap.size]? = some (.cells #[.slice none 0 0] 29)) := (b2.block _ (lt_of_some HX1.out)).trans HX1.out
      have HY2 : Hid (w2.heap[W0.heap.size]? = some (.cells #[v] 29)) := (b2.block _ (lt_of_some HY1.out)).trans HY1.out
      have HO2 : Hid (w2.ownsRow WB.heap.size 53 2 v acc.length (rPair acc)) := own_bel HO1.out b2 (Nat.le_refl _)
      have HB2 : Hid (Below w.heap.size w w2) := HB1.out.trans (b2.mono HB1.out.size)
      have HL2 : Hid (WB.heap.size ≤ w2.heap.size) := Nat.le_trans HL1.out b2.size
      clear b2 hsl1 hsl2
      by_cases hn : n = 0
      · have HF : Hid (¬ HasV s) := HN1.out (.inl hn)
        have hq : ((n : Int) == 0) = true := by rw [hn]; rfl
        clear hn
        have z0 := box1 HX2.out
        have zf0 := frz1 HX2.out 0
        go_wp2
        refine bodyPost_ret (v := .tuple #[.agg #[.slice none 0 0], .bool false]) (by simp [results, Try.results19, go_sem, z0]) rfl ?_
        exact rdc_no HF.out (HB2.out.setCell (Nat.le_refl _) _)
      have hq : ((n : Int) == 0) = false := by simp; omega
      by_cases hm : m = 0
      · have HF : Hid (¬ HasV s) := HN1.out (.inr hm)
        have hq2 : ((m : Int) == 0) = true := by rw [hm]; rfl
        clear hm hn
        have z0 := box1 HX2.out
        have zf0 := frz1 HX2.out 0
        go_wp2
        refine bodyPost_ret (v := .tuple #[.agg #[.slice none 0 0], .bool false]) (by simp [results, Try.results19, go_sem, z0]) rfl ?_
        exact rdc_no HF.out (HB2.out.setCell (Nat.le_refl _) _)
      have hq2 : ((m : Int) == 0) = false := by simp; omega
      obtain ⟨g1, g2, g3⟩ := HM1.out hn hm
      have HA3 : Hid (InN (flatP (acc ++ ([⟨a, b⟩] : List S_Pair)))) := g1
      have HT3 : Hid (s.extract 4 s.size = catN (flatP (acc ++ ([⟨a, b⟩] : List S_Pair))) ++ s.extract (k + n + m) s.size) := g2
      have HK3 : Hid (k + n + m ≤ s.size) := g3
      have HK4 : Hid (1 ≤ n) := by show _ ≤ _; omega
      clear hn hm g1 g2 g3
      have hown1 := HO2.out
      have hlen := HL.out
      have y0 := box1 HY2.out
      have yf := frz1 HY2.out 0
      have hyl := lt_of_some HY2.out
      have hne : ¬ w2.heap.size = W0.heap.size := by omega
      have hbase := HL2.out
      go_wp2_with (at_builtin; refine wpList_append_own _ rfl _ _ 27 rfl WB.heap.size 53 i0 (.agg #[.int .i64 0, .int .i64 0]) 2 16 Try.underlying27 hi hz0 hz1 hz2 rfl (by decide) _ _ _ rfl (hown1.alloc _) ⟨w2.heap.size, 0, none⟩ 1 1 [.int .i64 a, .int .i64 b] rfl rfl (cell_two_new _ _ _ _) (by intro u hu; simp at hu; rcases hu with rfl | rfl <;> rfl) (by omega) (by omega) (by simp; omega) ?_)
      intro v' w3 hown3 hgrow _
      have R1 : w3.ownsRow WB.heap.size 53 2 v' (acc ++ ([⟨a, b⟩] : List S_Pair)).length (rPair (acc ++ ([⟨a, b⟩] : List S_Pair))) := by rw [rPair_one, List.length_append]; exact hown3
      have hX3 := heap_grown hown1 hgrow (by rw [HZB.out]; omega) HX2.out
      have hY3 := heap_grown hown1 hgrow (by rw [HZB.out, HZ0.out]; omega) HY2.out
      have hB3 := below_append HB2.out (Nat.le_refl _) (own_low hown1 (by rw [HZB.out]; omega)) hgrow
      have hsz3 : WB.heap.size ≤ w3.heap.size := Nat.le_trans hbase (Nat.le_trans (by simp) hgrow.size)
      have y3 := box1 hY3
      have yf3 := frz1 hY3 0
      have HX4 : Hid ((w3.setCell ⟨W0.heap.size, 0, none⟩ v').heap[w.heap.size]? = some (.cells #[.slice none 0 0] 29)) := by show _ = _; rw [Below.heap_setCell _ _ _ _ (by show w.heap.size ≠ W0.heap.size; rw [HZ0.out]; omega)]; exact hX3
      have HY4 : Hid ((w3.setCell ⟨W0.heap.size, 0, none⟩ v').heap[W0.heap.size]? = some (.cells #[v'] 29)) := set1 hY3 v'
      have HO4 : Hid ((w3.setCell ⟨W0.heap.size, 0, none⟩ v').ownsRow WB.heap.size 53 2 v' (acc ++ ([⟨a, b⟩] : List S_Pair)).length (rPair (acc ++ ([⟨a, b⟩] : List S_Pair)))) := own_set_lt R1 v' (by show W0.heap.size < _; rw [HZB.out, HZ0.out]; omega)
      have HB4 : Hid (Below w.heap.size w (w3.setCell ⟨W0.heap.size, 0, none⟩ v')) := hB3.setCell (by show w.heap.size ≤ W0.heap.size; rw [HZ0.out]; omega) _
      have HL4 : Hid (WB.heap.size ≤ (w3.setCell ⟨W0.heap.size, 0, none⟩ v').heap.size) := by show _ ≤ _; simpa using hsz3
      obtain ⟨q3, c3, hv3⟩ := own_sliceV hown3
      have hone : v'.oneCell' = true := by rw [hv3]; rfl
      clear hown3 hgrow hown1 R1 hX3 hY3 hB3 hsz3 y0 yf
      subst hv3
      go_wp2
      go_roundw
      case rel => exact ⟨k + n + m, acc ++ ([⟨a, b⟩] : List S_Pair), _, by omega, HK3.out, by go_num, HX4, HY4, HO4, HB4, HL4, HA3, HT3⟩
      case measure => simp [intOf]; have := HK3.out; have := HK4.out; omega
    · have hke : k = s.size := by omega
      have HT5 : Hid (s.extract 4 s.size = catN (flatP acc)) := by
        have := HT.out
        rw [hke, ext_emptyV, ba_addE] at this
        exact this
      have HL : Hid (acc.length ≤ 250) := by
        have e1 := catN_len (flatP acc)
        have e2 := flatP_len acc
        have e3 := congrArg ByteArray.size HT5.out
        have e4 : (s.extract 4 s.size).size = s.size - 4 := by simp
        have := H250.out
        show _ ≤ _
        omega
      obtain ⟨q, cq, hv⟩ := own_sliceV HO.out
      subst hv
      have HRw : Hid (RowR wr (.slice q acc.length cq) acc.length 2 (rPair acc)) := RowR.own HO.out
      clear HT
      subst hke
      have y0 := box1 HY.out
      go_wp2_with fail
      refine (specCanon_c acc q cq wr (by have := HL.out; omega) HRw.out).mono ?_
      rintro e w1 ⟨rfl, b1⟩
      have HX1 : Hid (w1.heap[w.heap.size]? = some (.cells #[.slice none 0 0] 29)) := (b1.block _ (lt_of_some HX.out)).trans HX.out
      have HY1 : Hid (w1.heap[W0.heap.size]? = some (.cells #[.slice q acc.length cq] 29)) := (b1.block _ (lt_of_some HY.out)).trans HY.out
      have HO1 : Hid (w1.ownsRow WB.heap.size 53 2 (.slice q acc.length cq) acc.length (rPair acc)) := own_bel HO.out b1 (Nat.le_refl _)
      have HB1 : Hid (Below w.heap.size w w1) := HB.out.trans (b1.mono HB.out.size)
      clear b1 y0
      by_cases he : canT acc = s
      · have hq := tx_yes he
        have HOK : Hid (okV acc) := canT_ok he H4.out
        have HEE : Hid (canT acc = s) := he
        clear he
        generalize canT acc = C at hq
        have z0 := box1 HX1.out
        have zf0 := frz1 HX1.out 0
        have y0 := box1 HY1.out
        have HO9 : Hid ((w1.setCell ⟨w.heap.size, 0, none⟩ (.slice q acc.length cq)).ownsRow w.heap.size 53 2 (.slice q acc.length cq) acc.length (rPair acc)) := own_low (own_set_lt HO1.out _ (by show w.heap.size < _; rw [HZB.out]; omega)) (by rw [HZB.out]; omega)
        have z9 := box1 (set1 HX1.out (.slice q acc.length cq))
        go_wp2
        refine bodyPost_ret (v := .tuple #[.agg #[.slice q acc.length cq], .bool true]) (by simp [results, Try.results19, go_sem, z9, z0]) rfl ?_
        exact rdc_yes HOK.out HEE.out HO9.out (HB1.out.setCell (Nat.le_refl _) _)
      · have hq := tx_no he
        have HF : Hid (¬ HasV s) := rdc_end HA.out HT5.out he
        clear he
        generalize canT acc = C at hq
        have z0 := box1 HX1.out
        have zf0 := frz1 HX1.out 0
        go_wp2
        refine bodyPost_ret (v := .tuple #[.agg #[.slice none 0 0], .bool false]) (by simp [results, Try.results19, go_sem, z0]) rfl ?_
        exact rdc_no HF.out (HB1.out.setCell (Nat.le_refl _) _)

end Go.Proofs.Ythhkjnpeopfmjaa
