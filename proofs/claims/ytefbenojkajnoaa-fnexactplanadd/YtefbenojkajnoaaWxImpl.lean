/- WalText of the program. -/
import Derived.Test.YtefbenojkajnoaaWxRecs
import Derived.Test.YtefbenojkajnoaaBuLay
namespace Go.Proofs.Ytefbenojkajnoaa
open Go.RowKit
set_option linter.unusedVariables false
set_option linter.unusedSimpArgs false

theorem wpList_append_toW {P : Program} {ops : Array Oper} {rest : List Oper} {op : Oper} {a : Act} {w : World} {Q : Exit → Act → World → Prop} (hgd : op.guard = none) (s y : Operand) (t : TypeId)
    (ho : op.op = .call { callee := .builtin .append, args := #[s, y], argTypes := #[t, t] }) (v u : Value) (hs : a.eval s = v) (hx : a.eval y = u) (v' : Value) (w' : World)
    (hrun : (Builtin.append_ #[t, t] op.type #[v, u]).run P w = .ok v' w') (h : wpList P ops Q rest (a.put op.dst v') w') : wpList P ops Q (op :: rest) a w := by
  refine wpList_plain hgd fun K hK => ?_
  unfold Oper.wp execOp
  simp only [ho, resolve, invoke, builtin, Sem.run_bind, Sem.run_pure, Result.andThen_ok, List.map_toArray, List.map_cons, List.map_nil, hs, hx, hrun]
  exact hK _ _ h

theorem ba_nil_add (a : ByteArray) : (⟨#[]⟩ : ByteArray) ++ a = a := by
  cases a with | mk d => rw [ByteArray.mk_append_mk]; simp

/-- The frames of records, one behind the other. -/
def accR (L : List S_Rec) : ByteArray := L.foldl (fun t r => t ++ frR r) ⟨#[]⟩

theorem accR_snoc (L : List S_Rec) (r : S_Rec) : accR (L ++ [r]) = accR L ++ frR r := by unfold accR; rw [List.foldl_append]; rfl

theorem accR_take (L : List S_Rec) (j : Nat) (hj : j < L.length) : accR (L.take (j + 1)) = accR (L.take j) ++ frR L[j] := by
  rw [List.take_succ_eq_append_getElem hj, accR_snoc]

def allR (x : S_Wal) (n : Nat) : List S_Rec := [bsRec x, hdRec x] ++ recP x 0 n

theorem accR_all (x : S_Wal) : ∀ n, accR (allR x n) = walP x n
  | 0 => by show (⟨#[]⟩ ++ frR (bsRec x)) ++ frR (hdRec x) = frR (bsRec x) ++ frR (hdRec x); rw [ba_nil_add]
  | n + 1 => by
    show accR ([bsRec x, hdRec x] ++ (recP x 0 n ++ [enRec x (0 + n)])) = walP x n ++ frR (enRec x n)
    rw [← List.append_assoc, accR_snoc, Nat.zero_add]
    rw [show accR ([bsRec x, hdRec x] ++ recP x 0 n) = walP x n from accR_all x n]

theorem recP_ok {x : S_Wal} (h : okW x) (bt : Nat) : ∀ j, bt + j ≤ x.f4.length → ∀ r ∈ recP x bt j, okR r
  | 0, _, r, hr => by cases hr
  | j + 1, hj, r, hr => by
    rcases List.mem_append.1 hr with hr | hr
    · exact recP_ok h bt j (by omega) r hr
    · rw [List.mem_singleton.1 hr, en_at (by omega)]
      exact okR_en h (by omega)

theorem allR_ok {x : S_Wal} (h : okW x) : ∀ r ∈ allR x x.f4.length, okR r := by
  intro r hr
  rcases List.mem_append.1 hr with hr | hr
  · rcases List.mem_cons.1 hr with rfl | hr
    · exact okR_bs h
    · rw [List.mem_singleton.1 hr]; exact okR_hd h
  · exact recP_ok h 0 _ (by omega) r hr

theorem allR_len (x : S_Wal) (n : Nat) : (allR x n).length = 2 + n := by unfold allR; rw [List.length_append, recP_len]; rfl

theorem accR_small (L : List S_Rec) (h : ∀ r ∈ L, okR r) : ∀ j, j ≤ L.length → (accR (L.take j)).size ≤ 918 * j
  | 0, _ => by rw [List.take_zero]; exact Nat.le_refl _
  | j + 1, hj => by
    have a := accR_small L h j (by omega)
    have b := frR_size (h _ (List.getElem_mem (show j < L.length by omega)))
    rw [accR_take L j (by omega), ByteArray.size_append]
    omega

theorem run_nilRecd (w : World) (g : Nat) : (Builtin.append_ #[71, 71] 71 #[.slice (some ⟨g, 0, none⟩) 2 2, .slice none 0 0]).run Try.prog w = .ok (.slice (some ⟨g, 0, none⟩) 2 2) w := by kernel_rfl

theorem app_recs (w : World) (b1 b2 g n : Nat) (v : Value) (xs ys : List Value) (h1 : w.ownsRow b1 79 1 (.slice (some ⟨g, 0, none⟩) 2 2) 2 xs) (h2 : w.ownsRow b2 79 1 v n ys) (hy : ∀ u ∈ ys, u.oneCell' = true) (hn : n ≤ 1048576) (hb : b1 ≤ w.heap.size) :
    ∃ v' w', (Builtin.append_ #[71, 71] 71 #[.slice (some ⟨g, 0, none⟩) 2 2, v]).run Try.prog w = .ok v' w' ∧ w'.ownsRow b1 79 1 v' (2 + n) (xs ++ ys) ∧ w.grownBy w' (some g) := by
  obtain ⟨iR, hiR, hR0, hR1, hR2⟩ := info_parts infoRecd
  have h2' := h2
  obtain ⟨hl, ⟨rfl, rfl⟩ | ⟨g2, cap, cur, rfl, hg, hh, _⟩⟩ := h2
  · have e : ys = [] := List.eq_nil_of_length_eq_zero (by omega)
    subst e
    exact ⟨_, _, run_nilRecd w g, by rw [List.append_nil]; exact h1, ⟨rfl, rfl, rfl, Nat.le_refl _, fun _ _ _ => rfl⟩⟩
  · obtain ⟨v', w', hrun, ho, hgr, _⟩ := run_append_own (P := Try.prog) w b1 71 71 79 iR .nilIface 1 16 Try.underlying71 hiR hR0 hR1 hR2 rfl (by decide) _ _ _ h1 ⟨g2, 0, none⟩ n cap ys (by simpa using hl) (fun j u hj => by
      rw [Addr.add_mid, Nat.zero_add]
      have hjl : j < n * 1 := by
        rw [← hl]
        exact (List.getElem?_eq_some_iff.1 hj).1
      rw [h2'.cellAt j hjl]
      exact hj) hy (by unfold maxLen; omega) (by omega) hb
    exact ⟨v', w', hrun, ho, hgr⟩

theorem recV_one (r : S_Rec) : (recV r).oneCell' = true := by
  unfold recV
  split
  · rfl
  · split
    · rfl
    · split
      · rfl
      · split <;> rfl

theorem cutR_id {r : S_Rec} (h : okR r) : cutR r = r := sameR_eq ((okR_iff r).1 h).2

theorem tellOk_c (r : S_Rec) (w : World) (h : okR r) : Calls Try.prog 39 #[recV r] w fun e w' => e = .returned (.agg #[.int .i64 r.f0, .int .i64 r.f1, .int .i64 r.f2, .int .i64 r.f3, .string r.f4]) ∧ Below w.heap.size w w' := by
  have := tellRec_c r w (by have := okR_data h; omega)
  rw [cutR_id h] at this
  exact this

end Go.Proofs.Ytefbenojkajnoaa
