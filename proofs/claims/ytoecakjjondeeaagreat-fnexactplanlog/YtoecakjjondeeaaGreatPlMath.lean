/- The steps that lay a file anew. -/
import Derived.Test.YtoecakjjondeeaaGreatHaStep
import Derived.Test.YtoecakjjondeeaaGreatDiLoad
namespace Go.Proofs.YtoecakjjondeeaaGreat
open Go.RowKit
set_option linter.unusedVariables false
set_option linter.unusedSimpArgs false

def newB : ByteArray := ⟨#[46, 110, 101, 119]⟩
def logB : ByteArray := ⟨#[108, 111, 103]⟩
/-- The steps that lay a file anew: the old new one goes first, where it is there. -/
def anH (there : Bool) (F : ByteArray) : List S_Step := if there then [⟨5, F, ⟨#[]⟩, ⟨#[]⟩⟩] else []
def anT (F s T : ByteArray) : List S_Step := [⟨1, F, ⟨#[]⟩, ⟨#[]⟩⟩, ⟨2, F, ⟨#[]⟩, T⟩, ⟨3, F, ⟨#[]⟩, ⟨#[]⟩⟩, ⟨4, F, s, ⟨#[]⟩⟩, ⟨6, ⟨#[]⟩, ⟨#[]⟩, ⟨#[]⟩⟩]
def anL (there : Bool) (s T : ByteArray) : List S_Step := anH there (s ++ newB) ++ anT (s ++ newB) s T
theorem anH_len (b : Bool) (F : ByteArray) : (anH b F).length ≤ 1 := by cases b <;> simp [anH]
theorem anL_len (b : Bool) (s T : ByteArray) : (anL b s T).length ≤ 6 := by cases b <;> simp [anL, anH, anT]
/-- Is there a file of this name? -/
def thB (x : S_Disk) (s : ByteArray) : Bool := !decide (fnd x s < 0)

theorem infoSt : (Tryz.prog.info? 39).map (fun i => (i.zero, i.size, i.bytes)) = some (some (.agg #[.int .i64 0, .string ⟨#[]⟩, .string ⟨#[]⟩, .string ⟨#[]⟩]), 4, 56) := by kernel_rfl

theorem cells_lit (w : World) (cs : List Value) (t : TypeId) : ∀ j u, cs[j]? = some u → (w.alloc (.cells cs.toArray t)).cell? ((⟨w.heap.size, 0, none⟩ : Addr).add j) = some u := fun j u hj => by
  rw [Addr.add_mid, Nat.zero_add]
  simp only [World.cell?, alloc_at w (.cells cs.toArray t)]
  simpa using hj

theorem rStep_app (A B : List S_Step) : rStep (A ++ B) = rStep A ++ rStep B := by simp [rStep]

theorem ones_st (k : Int) (a b c : ByteArray) : ∀ u ∈ ([.int .i64 k, .string a, .string b, .string c] : List Value), u.oneCell' = true := by
  intro u hu
  simp only [List.mem_cons, List.not_mem_nil, or_false] at hu
  rcases hu with rfl | rfl | rfl | rfl <;> rfl

theorem ones_an (F s T : ByteArray) : ∀ u ∈ ([.int .i64 1, .string F, .string ⟨#[]⟩, .string ⟨#[]⟩, .int .i64 2, .string F, .string ⟨#[]⟩, .string T, .int .i64 3, .string F, .string ⟨#[]⟩, .string ⟨#[]⟩, .int .i64 4, .string F, .string s, .string ⟨#[]⟩, .int .i64 6, .string ⟨#[]⟩, .string ⟨#[]⟩, .string ⟨#[]⟩] : List Value), u.oneCell' = true := by
  intro u hu
  simp only [List.mem_cons, List.not_mem_nil, or_false] at hu
  rcases hu with h | h | h | h | h | h | h | h | h | h | h | h | h | h | h | h | h | h | h | h <;> rw [h] <;> rfl

end Go.Proofs.YtoecakjjondeeaaGreat
