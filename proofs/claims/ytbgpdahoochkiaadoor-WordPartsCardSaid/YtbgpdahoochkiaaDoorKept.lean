import Derived.Test.YtbgpdahoochkiaaDoorNum
namespace Go.Proofs.YtbgpdahoochkiaaDoor
open Go.RowKit

def str (l : List UInt8) : ByteArray := ⟨l.toArray⟩
theorem str_inj {a b : List UInt8} (h : str a = str b) : a = b := by
  unfold str at h
  injection h with h
  simpa using congrArg Array.toList h

theorem str_toList (l : List UInt8) : (str l).toList = l := by
  rw [ByteArray.toList_eq]; rfl

theorem run_conv_sees {P : Program} (w : World) {src dst e : TypeId} (hs : P.underlying src = some (.slice e)) (he : P.underlying e = some (.int .u8)) (hd : P.underlying dst = some .string)
    {B n c : Nat} {A : Option Addr} {l : List UInt8} (hl : l.length = n) (hr : Sees w B A (byt l)) :
    (convert src dst (.slice A n c)).run P w = .ok (.string (str l)) w := by
  subst hl
  rw [run_convert_bytes_string w src dst e _ _ c hs he hd]
  rcases A with _ | ad
  · rcases l with _ | ⟨b, l⟩
    · simp [Conv.bytesToString, str]
      rfl
    · obtain ⟨ad, h, _⟩ := hr (by simp [byt])
      cases h
  · have hload : (loadCells ad l.length).run P w = .ok ((l.map fun b => (b.toNat : Int)).map (Value.int .u8)).toArray w := by
      have := run_loadCells_list (P := P) w ad (byt l) (fun j v hj => by
        obtain ⟨ad', h, _, hc⟩ := hr (by intro h0; rw [h0] at hj; simp at hj)
        injection h with h
        subst h
        exact hc j v hj)
      simpa [byt, Function.comp_def] using this
    rw [run_bytesToString w ad _ c _ hload, foldl_push_bytes]
    simp [str, ByteArray.empty, ByteArray.emptyWithCapacity, Function.comp_def]
    rfl

set_option maxHeartbeats 1000000 in
theorem kept_any (l : List UInt8) (n c B g cap base : Nat) (A : Option Addr) (w : World) (hn : l.length = n) (hm : n ≤ 140737488351232) (hr : Sees w B A (byt l))
    (ho : w.ownsRow base 5 1 (.slice (some ⟨g, 0, none⟩) (n + 1) cap) (n + 1) (byt l ++ [.int .u8 77])) :
    Calls Tryd.prog 16 #[.slice (some ⟨g, 0, none⟩) n cap, .slice A n c] w fun e w' => e = .returned (.bool true) ∧ w = w' := by
  have hcap := (own_cap ho).1
  have hr2 : Sees w w.heap.size (some ⟨g, 0, none⟩) (byt l) := by
    have := (Sees.of_own ho).take (byt l).length
    simpa using this
  have hs1 := run_conv_sees (P := Tryd.prog) w Tryd.underlying23 Tryd.underlying5 Tryd.underlying9 (c := cap) hn hr2
  have hs2 := run_conv_sees (P := Tryd.prog) w Tryd.underlying23 Tryd.underlying5 Tryd.underlying9 (c := c) hn hr
  have hc : w.cell? ⟨g, n, none⟩ = some (.int .u8 77) := by
    rw [ho.cellAt n (by omega), List.getElem?_append_right (by rw [byt_length]; omega), byt_length, hn]
    simp
  clear hr hr2 ho hn
  go_enter Tryd.func16, Tryd.ntmps16
  go_wp2
  go_ret
  exact ⟨rfl, rfl⟩
end Go.Proofs.YtbgpdahoochkiaaDoor
