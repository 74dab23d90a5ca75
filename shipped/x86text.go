package shipped

// x86 is the description of x86-64, as desc.Print prints it: the registers that a value may be in. rsp is the frame's
// own.
const x86 = `machine x86 {
  reg rax 64 {
    reg eax 32 at 0 {
      reg ax 16 at 0 {
        reg al 8 at 0
        reg ah 8 at 8
      }
    }
  }
  reg rcx 64 {
    reg ecx 32 at 0 {
      reg cx 16 at 0 {
        reg cl 8 at 0
        reg ch 8 at 8
      }
    }
  }
  reg rdx 64 {
    reg edx 32 at 0 {
      reg dx 16 at 0 {
        reg dl 8 at 0
        reg dh 8 at 8
      }
    }
  }
  reg rbx 64 {
    reg ebx 32 at 0 {
      reg bx 16 at 0 {
        reg bl 8 at 0
        reg bh 8 at 8
      }
    }
  }
  reg rsi 64 {
    reg esi 32 at 0 {
      reg si 16 at 0 {
        reg sil 8 at 0
      }
    }
  }
  reg rdi 64 {
    reg edi 32 at 0 {
      reg di 16 at 0 {
        reg dil 8 at 0
      }
    }
  }
  reg rbp 64 {
    reg ebp 32 at 0 {
      reg bp 16 at 0 {
        reg bpl 8 at 0
      }
    }
  }
  reg r8 64 {
    reg r8d 32 at 0 {
      reg r8w 16 at 0 {
        reg r8b 8 at 0
      }
    }
  }
  reg r9 64 {
    reg r9d 32 at 0 {
      reg r9w 16 at 0 {
        reg r9b 8 at 0
      }
    }
  }
  reg r10 64 {
    reg r10d 32 at 0 {
      reg r10w 16 at 0 {
        reg r10b 8 at 0
      }
    }
  }
  reg r11 64 {
    reg r11d 32 at 0 {
      reg r11w 16 at 0 {
        reg r11b 8 at 0
      }
    }
  }
  reg r12 64 {
    reg r12d 32 at 0 {
      reg r12w 16 at 0 {
        reg r12b 8 at 0
      }
    }
  }
  reg r13 64 {
    reg r13d 32 at 0 {
      reg r13w 16 at 0 {
        reg r13b 8 at 0
      }
    }
  }
  reg r14 64 {
    reg r14d 32 at 0 {
      reg r14w 16 at 0 {
        reg r14b 8 at 0
      }
    }
  }
  reg r15 64 {
    reg r15d 32 at 0 {
      reg r15w 16 at 0 {
        reg r15b 8 at 0
      }
    }
  }
  class g = rax rcx rdx rsi rdi r8 r9 r10 r11 rbx rbp r12 r13 r14 r15
  class d = eax ecx edx esi edi r8d r9d r10d r11d ebx ebp r12d r13d r14d r15d
  class w = ax cx dx si di r8w r9w r10w r11w bx bp r12w r13w r14w r15w
  class b = al cl dl sil dil r8b r9b r10b r11b bl bpl r12b r13b r14b r15b
  class h = ah ch dh bh
  op add g = g g tie 0
  op sub g = g g tie 0
  op mul g = g g tie 0
  op and g = g g tie 0
  op or g = g g tie 0
  op xor g = g g tie 0
  op shl g = g g tie 0
  op shr g = g g tie 0
  op div g:rax = g:rax g tie 0 clob rdx
  op rem g:rax = g:rax g tie 0 clob rdx
  op lt g = g g
  op eq g = g g
  op not g = g tie 0
  args rdi rsi rdx rcx r8 r9
  result rax
  saved rbx rbp r12 r13 r14 r15
  slots 1000
}
`
